/- WaitRefused: the law. -/
import Derived.Test.YtfebiemfmiahhaaLc
import Derived.Deep.RegionHeld3
namespace Go.Proofs.Ytfebiemfmiahhaa
open Go.ChangeShapes Go.WideShapes Go.ChangeAt Go.RowKit Go.Maps
set_option linter.unusedVariables false
set_option linter.unusedSimpArgs false
set_option maxRecDepth 100000
set_option maxHeartbeats 8000000
/-- one Wait, and the step at hand -/
structure Sn (w0 : World) (O : Nat → Prop) (w : World) (p T : Nat) (E : List En) (bo : Nat) (o : Ol) : Prop where
  wa : Wa w0 O w p T E
  bk : OpBk w bo o
  no : ¬ O bo
  ok : OlOk w0 o
theorem Sn.below {w0 w w' : World} {O : Nat → Prop} {p T bo : Nat} {E : List En} {o : Ol} (h : Sn w0 O w p T E bo o) (hb : Below w.heap.size w w') : Sn w0 O w' p T E bo o :=
  ⟨h.wa.below hb, h.bk.below hb, h.no, h.ok⟩
theorem Sn.fr {w0 w w' : World} {O O' : Nat → Prop} {p T T' bo : Nat} {E E' : List En} {o : Ol} (h : Sn w0 O w p T E bo o) (hf : Fr O w w') (hO : ∀ b, O' b → O b ∨ w.heap.size ≤ b) (k : Wa w0 O' w' p T' E') : Sn w0 O' w' p T' E' bo o :=
  ⟨k, hf.row h.bk h.no, fun q => (hO _ q).elim h.no (by have := blk_lt h.bk; omega), h.ok⟩
/-- two rows of numbers that are not its own -/
structure Two (O : Nat → Prop) (w : World) (E : List En) (ga na gd nd : Nat) : Prop where
  ra : RowI w ga (E.map (·.x.conn))
  la : na = E.length
  rd : ∃ F, DueIs E 4503599627370496 F ∧ RowI w gd (F.map (·.x.conn)) ∧ nd = F.length
  oa : ¬ O ga
  od : ¬ O gd
theorem Two.below {w w' : World} {O : Nat → Prop} {E : List En} {ga na gd nd : Nat} (h : Two O w E ga na gd nd) (hb : Below w.heap.size w w') : Two O w' E ga na gd nd := by
  obtain ⟨F, h1, h2, h3⟩ := h.rd
  exact ⟨(hb.block _ (blk_lt h.ra)).trans h.ra, h.la, ⟨F, h1, (hb.block _ (blk_lt h2)).trans h2, h3⟩, h.oa, h.od⟩
theorem Two.fr {w w' : World} {O O' : Nat → Prop} {E : List En} {ga na gd nd : Nat} (h : Two O w E ga na gd nd) (hf : Fr O w w') (hO : ∀ b, O' b → O b ∨ w.heap.size ≤ b) : Two O' w' E ga na gd nd := by
  obtain ⟨F, h1, h2, h3⟩ := h.rd
  have la := blk_lt h.ra
  have ld := blk_lt h2
  exact ⟨hf.row h.ra h.oa, h.la, ⟨F, h1, hf.row h2 h.od, h3⟩, fun q => (hO _ q).elim h.oa (by omega), fun q => (hO _ q).elim h.od (by omega)⟩
theorem Wa.few {w0 w : World} {O : Nat → Prop} {p T : Nat} {E : List En} (h : Wa w0 O w p T E) : E.length ≤ 8 := by
  obtain ⟨bw, bl, q⟩ := h.ex
  exact few8 q.nd q.ok
theorem Wa.inc {w0 w : World} {O : Nat → Prop} {p T : Nat} {E : List En} (h : Wa w0 O w p T E) : E.Pairwise (fun a b => a.turn < b.turn) := by
  obtain ⟨bw, bl, q⟩ := h.ex
  exact q.inc
section
variable {w0 w : World} {O : Nat → Prop} {p T : Nat} {E : List En} {bo : Nat} {o : Ol} {ga na gd nd : Nat}
theorem two_waiting (h : Hid (Sn w0 O w p T E bo o ∧ Two O w E ga na gd nd)) :
    Calls Try.prog 11 #[.pointer (some ⟨p, 0, none⟩)] w fun e w' => ∃ g, e = .returned (.slice (some ⟨g, 0, none⟩) na na) ∧ Hid (RowI w' g (E.map (·.x.conn)) ∧ Sn w0 O w' p T E bo o ∧ Two O w' E ga na gd nd) := by
  obtain ⟨h1, h2⟩ := unhide h
  refine (wa_waiting w0 O w p T E h1.wa).mono ?_
  rintro e w' ⟨g, n, rfl, H⟩
  obtain ⟨r1, r2, r3, r4, r5⟩ := unhide H
  obtain rfl : n = na := by rw [r2, h2.la]
  exact ⟨g, rfl, hide ⟨r1, h1.below r5, h2.below r5⟩⟩
theorem two_ints_a {g : Nat} (h : Hid (RowI w g (E.map (·.x.conn)) ∧ Sn w0 O w p T E bo o ∧ Two O w E ga na gd nd)) :
    Calls Try.prog 15 #[.slice (some ⟨ga, 0, none⟩) na na, .slice (some ⟨g, 0, none⟩) na na] w fun e w' => e = .returned (.bool true) ∧ Hid (Sn w0 O w' p T E bo o ∧ Two O w' E ga na gd nd) := by
  obtain ⟨h1, h2, h3⟩ := unhide h
  refine (ints_same w (some ⟨ga, 0, none⟩) (some ⟨g, 0, none⟩) na na na (E.map (·.x.conn)) h3.ra.is h1.is (by rw [List.length_map]; exact h3.la) (by have := h2.wa.few; have := h3.la; omega)).mono ?_
  rintro e w' ⟨rfl, H⟩
  exact ⟨rfl, hide ⟨h2.below (unhide H), h3.below (unhide H)⟩⟩
theorem two_due (h : Hid (Sn w0 O w p T E bo o ∧ Two O w E ga na gd nd)) :
    Calls Try.prog 12 #[.pointer (some ⟨p, 0, none⟩), .int .u64 4503599627370496] w fun e w' => ∃ g, e = .returned (.slice (some ⟨g, 0, none⟩) nd nd) ∧ Hid ((∃ F, DueIs E 4503599627370496 F ∧ RowI w' g (F.map (·.x.conn))) ∧ Sn w0 O w' p T E bo o ∧ Two O w' E ga na gd nd) := by
  obtain ⟨h1, h2⟩ := unhide h
  refine (wa_due w0 O w p T 4503599627370496 E h1.wa).mono ?_
  rintro e w' ⟨g, n, rfl, H⟩
  obtain ⟨F, r0, r1, r2, r3, r4, r5⟩ := unhide H
  obtain ⟨F', s1, s2, s3⟩ := h2.rd
  obtain rfl : n = nd := by rw [r2, s3, r0.one h1.wa.inc s1]
  exact ⟨g, rfl, hide ⟨⟨F, r0, r1⟩, h1.below r5, h2.below r5⟩⟩
theorem two_ints_d {g : Nat} (h : Hid ((∃ F, DueIs E 4503599627370496 F ∧ RowI w g (F.map (·.x.conn))) ∧ Sn w0 O w p T E bo o ∧ Two O w E ga na gd nd)) :
    Calls Try.prog 15 #[.slice (some ⟨gd, 0, none⟩) nd nd, .slice (some ⟨g, 0, none⟩) nd nd] w fun e w' => e = .returned (.bool true) ∧ Hid (Sn w0 O w' p T E bo o ∧ Two O w' E ga na gd nd) := by
  obtain ⟨⟨F, r0, r1⟩, h2, h3⟩ := unhide h
  obtain ⟨F', s1, s2, s3⟩ := h3.rd
  obtain rfl : F = F' := r0.one h2.wa.inc s1
  have hle : F.length ≤ E.length := by rw [r0.perm.length_eq]; exact List.length_filter_le _ _
  refine (ints_same w (some ⟨gd, 0, none⟩) (some ⟨g, 0, none⟩) nd nd nd (F.map (·.x.conn)) s2.is r1.is (by rw [List.length_map]; exact s3) (by have := h2.wa.few; omega)).mono ?_
  rintro e w' ⟨rfl, H⟩
  exact ⟨rfl, hide ⟨h2.below (unhide H), h3.below (unhide H)⟩⟩
theorem two_twin {j : Nat} (hj : Hid (j = o.pl.length)) (h : Hid (Sn w0 O w p T E bo o ∧ Two O w E ga na gd nd)) :
    Calls Try.prog 17 #[.slice o.a j o.cap] w fun e w' => ∃ a' cap', e = .returned (.slice a' j cap') ∧ w'.cell? ⟨bo, 2, none⟩ = some (.int .i64 o.conn) ∧ w'.cell? ⟨bo, 3, none⟩ = some (.int .i64 o.kind) ∧ w'.cell? ⟨bo, 4, none⟩ = some (.slice o.a j o.cap) ∧ w'.cell? ⟨bo, 5, none⟩ = some (.int .u64 (o.time : Nat)) ∧ Hid (PlsAt w' a' o.pl ∧ Sn w0 O w' p T E bo o ∧ Two O w' E ga na gd nd) := by
  obtain ⟨h1, h2⟩ := unhide h
  obtain rfl := unhide hj
  refine (twin_any w o.a o.cap o.pl (h1.ok.below h1.wa.bel).pls h1.ok.nil h1.ok.len).mono ?_
  rintro e w' ⟨a', cap', rfl, -, H⟩
  obtain ⟨k1, k2⟩ := unhide H
  have sn := h1.below k2
  exact ⟨a', cap', rfl, sn.bk.cells.2.2.1, sn.bk.cells.2.2.2.1, sn.bk.cells.2.2.2.2.1, sn.bk.cells.2.2.2.2.2, hide ⟨k1, sn, h2.below k2⟩⟩
theorem two_block {j : Nat} {a' : Option Addr} {cap' : Nat} (hj : Hid (j = o.pl.length)) (hT : T < 1099511627776) (h : Hid (PlsAt w a' o.pl ∧ Sn w0 O w p T E bo o ∧ Two O w E ga na gd nd)) :
    Calls Try.prog 16 #[.pointer (some ⟨p, 0, none⟩), .int .i64 o.conn, .int .i64 o.kind, .slice a' j cap', .int .u64 (o.time : Nat)] w fun e w' => e = .returned (.int .i64 (refR E o.conn o.kind o.pl o.time)) ∧ Hid (∃ O' T' E', Sn w0 O' w' p T' E' bo o ∧ Two O' w' E ga na gd nd ∧ T' ≤ T + 1 ∧ (refR E o.conn o.kind o.pl o.time ≠ 0 → E' = E) ∧ (refR E o.conn o.kind o.pl o.time = 0 → E'.length = na + 1)) := by
  obtain ⟨h0, h1, h2⟩ := unhide h
  refine (wa_block w0 O w p T E o.conn o.kind a' j cap' o.pl o.time h1.wa h1.ok.conn h0 (unhide hj) (by have := unhide hj; have := h1.ok.len; omega) hT).mono ?_
  rintro e w' ⟨rfl, H⟩
  obtain ⟨O', T', E', k1, k2, k3, k4, k5, k6, k7⟩ := unhide H
  refine ⟨rfl, hide ⟨O', T', E', h1.fr k2 k5 k1, h2.fr k2 k5, k3, fun hne => (k6 hne).1, fun h0 => ?_⟩⟩
  obtain ⟨cn, g, -, rfl⟩ := k7 h0
  rw [List.length_append, h2.la]; rfl
end
theorem refused_law (W : World) (many : Int) (a : Option Addr) (cap : Nat) (n : Nat) (l : List Ol) (hn : n = l.length) (hn2 : n ≤ 9223372036854775807) (h : OpsAt W a l) :
    Calls Try.prog 3 #[.agg #[.int .i64 many, .slice a n cap]] W fun e w' => e = .returned (.bool true) ∧ Hid (Below W.heap.size W w') := by
  have HN := hide hn
  have HL := hide h
  clear hn h
  go_enter Try.func3, Try.ntmps3
  have C0 := wakes_any
  go_wp2_with (go_at_call 9; refine (C0 _).mono ?_; clear C0; rintro e w1 ⟨rfl, H1⟩)
  obtain ⟨w0, hw0⟩ : ∃ w0, w0 = W.alloc (Obj.cells #[Value.int IntKind.i64 many, Value.slice a n cap] 24) := ⟨_, rfl⟩
  rw [← hw0] at H1
  have HW : Hid (Below W.heap.size W w0 ∧ OpsAt w0 a l ∧ w0.heap[W.heap.size]? = some (.cells #[.int .i64 many, .slice a n cap] 24 (0, 0))) := by
    rw [hw0]
    have hb := (Below.refl W.heap.size W).alloc (Nat.le_refl _) (Obj.cells #[Value.int IntKind.i64 many, Value.slice a n cap] 24)
    exact hide ⟨hb, (unhide HL).below hb, heap_alloc_new _ _⟩
  clear hw0 HL
  have C1 := wa_new w0 w1 (unhide H1)
  clear H1
  go_wp2_with (go_at_call 10; refine C1.mono ?_; clear C1; rintro e w2 ⟨p, rfl, H2⟩)
  go_loopw [4] (fun iv wr => ∃ i : Nat, iv = .int .i64 ((i : Nat) : Int) ∧ i ≤ n ∧ i ≤ 300 ∧ Hid (∃ O T E, Wa w0 O wr p T E ∧ T ≤ i)) (fun iv _ => n - (intOf iv).toNat)
  case atStart =>
    refine ⟨0, rfl, Nat.zero_le _, Nat.zero_le _, hide ?_⟩
    obtain ⟨O, k, -, -⟩ := unhide H2
    exact ⟨O, 0, [], k, Nat.le_refl _⟩
  case round =>
    obtain ⟨i, rfl, hi, hi3, HV⟩ := hrel
    clear H2
    have c0 : wr.cell? ⟨W.heap.size, 1, none⟩ = some (.slice a n cap) := by
      obtain ⟨-, -, q⟩ := unhide HW
      obtain ⟨O, T, E, k, -⟩ := unhide HV
      exact (k.bel.cell (p := ⟨W.heap.size, 1, none⟩) (blk_lt q)).trans (cell_blk q 1)
    by_cases hin : i < n ∧ i < 300
    rotate_left
    · obtain ⟨be, hbe⟩ : ∃ be : Bool, (decide ((i : Int) < (n : Int)) && decide ((i : Int) < 300)) = be := ⟨_, rfl⟩
      --<<fin
      as_aux_lemma =>
        clear hbe
        by_cases h1 : i < n
        · have f1 : decide ((i : Int) < (n : Int)) = true := decide_eq_true (by omega)
          have f2 : decide ((i : Int) < 300) = false := decide_eq_false (by omega)
          go_wp2_with fail
          go_ret
          obtain ⟨O, T, E, k, -⟩ := unhide HV
          exact ⟨rfl, hide ((unhide HW).1.trans (k.bel.mono (unhide HW).1.size))⟩
        · have f1 : decide ((i : Int) < (n : Int)) = false := decide_eq_false (by omega)
          go_wp2_with fail
          go_ret
          obtain ⟨O, T, E, k, -⟩ := unhide HV
          exact ⟨rfl, hide ((unhide HW).1.trans (k.bel.mono (unhide HW).1.size))⟩
      -->>fin
    · have f1 : decide ((i : Int) < (n : Int)) = true := decide_eq_true (by omega)
      have f2 : decide ((i : Int) < 300) = true := decide_eq_true (by omega)
      have g1 : (0 : Int) ≤ (i : Int) := by omega
      have g2 : (i : Int) < (n : Int) := by omega
      obtain ⟨o, ho⟩ : ∃ o, l[i]? = some o := ⟨_, List.getElem?_eq_getElem (by have := unhide HN; omega)⟩
      obtain ⟨O, T, E, k, hT⟩ := unhide HV
      clear HV
      obtain ⟨-, q, -⟩ := unhide HW
      obtain ⟨b, off, rfl, -, d0, d1, d2, d3, d4, d5⟩ := (q.below k.bel).at ho
      have hok := q.ok o (List.mem_of_getElem? ho)
      have HK := hide k
      have HO := hide hok
      clear k hok q ho
      go_wp2_with fail
      have HS : Hid (Sn w0 O (wr.alloc (.cells #[.int .i64 o.on, .int .i64 o.act, .int .i64 o.conn, .int .i64 o.kind, .slice o.a o.pl.length o.cap, .int .u64 (o.time : Nat)] 31)) p T E wr.heap.size o) := by
        have hb := (Below.refl wr.heap.size wr).alloc (Nat.le_refl _) (.cells #[.int .i64 o.on, .int .i64 o.act, .int .i64 o.conn, .int .i64 o.kind, .slice o.a o.pl.length o.cap, .int .u64 (o.time : Nat)] 31)
        exact hide ⟨(unhide HK).below hb, heap_alloc_new _ _, fun q => by have := (unhide HK).lt _ q; omega, unhide HO⟩
      clear HK HO c0 d0 d1 d2 d3 d4 d5
      generalize wr.alloc (.cells #[.int .i64 o.on, .int .i64 o.act, .int .i64 o.conn, .int .i64 o.kind, .slice o.a o.pl.length o.cap, .int .u64 (o.time : Nat)] 31) = w3 at *
      generalize wr.heap.size = bo at *
      have C1 := wa_waiting w0 O w3 p T E (unhide HS).wa
      go_wp2_with (go_at_call 11; refine C1.mono ?_; clear C1; rintro e w4 ⟨ga, na, rfl, H4⟩)
      have HS4 : Hid (Sn w0 O w4 p T E bo o) := hide ((unhide HS).below (unhide H4).2.2.2.2)
      have C2 := wa_due w0 O w4 p T 4503599627370496 E (unhide HS4).wa
      have D2 : Calls Try.prog 12 #[.pointer (some ⟨p, 0, none⟩), .int .u64 4503599627370496] w4 fun e w5 => ∃ gd nd, e = .returned (.slice (some ⟨gd, 0, none⟩) nd nd) ∧ w5.cell? ⟨bo, 2, none⟩ = some (.int .i64 o.conn) ∧ Hid (Sn w0 O w5 p T E bo o ∧ Two O w5 E ga na gd nd) := by
        refine C2.mono ?_
        rintro e w5 ⟨gd, nd, rfl, H5⟩
        obtain ⟨r1, r2, r3, r4, r5⟩ := unhide H4
        obtain ⟨F, s1, s2, s3, s4, s5, s6⟩ := unhide H5
        have sn := (unhide HS4).below s6
        exact ⟨gd, nd, rfl, sn.bk.cells.2.2.1, hide ⟨sn, ⟨(s6.block _ (blk_lt r1)).trans r1, r2, ⟨F, s1, s2, s3⟩, fun q => by have := (unhide HS).wa.lt _ q; omega, fun q => by have := (unhide HS4).wa.lt _ q; omega⟩⟩⟩
      clear C2 HS H4 HS4
      go_wp2_with (go_at_call 12; refine D2.mono ?_; clear D2; rintro e w5 ⟨gd, nd, rfl, x2, HS5⟩)
      have C3 : Calls Try.prog 13 #[.pointer (some ⟨p, 0, none⟩), .int .i64 o.conn] w5 fun e w6 => ∃ tl : Nat, e = .returned (.tuple #[.int .u64 (tl : Nat), .bool (lookE E o.conn).isSome]) ∧ w6.cell? ⟨bo, 1, none⟩ = some (.int .i64 o.act) ∧ w6.cell? ⟨bo, 2, none⟩ = some (.int .i64 o.conn) ∧ Hid (Sn w0 O w6 p T E bo o ∧ Two O w6 E ga na gd nd) := by
        refine (wa_until w0 O w5 p T E o.conn (unhide HS5).1.wa (unhide HS5).1.ok.conn).mono ?_
        rintro e w6 ⟨rfl, H6⟩
        have sn := (unhide HS5).1.below (unhide H6).2
        exact ⟨_, rfl, sn.bk.cells.2.1, sn.bk.cells.2.2.1, hide ⟨sn, (unhide HS5).2.below (unhide H6).2⟩⟩
      clear HS5 x2
      obtain ⟨wt, hwt⟩ : ∃ wt, wt = (lookE E o.conn).isSome := ⟨_, rfl⟩
      rw [← hwt] at C3
      have HWT := hide hwt
      clear hwt
      by_cases hd : o.act = 1
      rotate_left
      · have f3 : (o.act != 1) = true := by simpa using hd
        cases wt with
        | true =>
          --<<relT
          as_aux_lemma =>
            have C4 : ∀ w6 : World, Hid (Sn w0 O w6 p T E bo o ∧ Two O w6 E ga na gd nd) → Calls Try.prog 14 #[.pointer (some ⟨p, 0, none⟩), .int .i64 o.conn] w6 fun e w' => e = .returned (.bool true) ∧ Hid (∃ O E, Wa w0 O w' p T E) := fun w6 H6 => by
              refine (wa_release w0 O w6 p T E o.conn (unhide H6).1.wa (unhide H6).1.ok.conn).mono ?_
              rintro e w' ⟨rfl, H⟩
              obtain ⟨O', k1, -, -⟩ := unhide H
              exact ⟨by rw [← unhide HWT], hide ⟨O', _, k1⟩⟩
            go_wp2_with (first
              | (go_at_call 13; refine C3.mono ?_; clear C3; rintro e w6 ⟨tl, rfl, x1, x2, HS6⟩)
              | (go_at_call 14; refine (C4 _ HS6).mono ?_; clear C4; rintro e w7 ⟨rfl, H7⟩))
            refine ⟨⟨i + 1, congrArg (Value.int .i64) (by omega), by omega, by omega, hide ?_⟩, by simp [intOf]; omega⟩
            obtain ⟨O', E', k⟩ := unhide H7
            exact ⟨O', T, E', k, by omega⟩
          -->>relT
        | false =>
          --<<relF
          as_aux_lemma =>
            have C4 : ∀ w6 : World, Hid (Sn w0 O w6 p T E bo o ∧ Two O w6 E ga na gd nd) → Calls Try.prog 14 #[.pointer (some ⟨p, 0, none⟩), .int .i64 o.conn] w6 fun e w' => e = .returned (.bool false) ∧ Hid (∃ O, Sn w0 O w' p T E bo o ∧ Two O w' E ga na gd nd) := fun w6 H6 => by
              refine (wa_release w0 O w6 p T E o.conn (unhide H6).1.wa (unhide H6).1.ok.conn).mono ?_
              rintro e w' ⟨rfl, H⟩
              obtain ⟨O', k1, k2, k3, k4⟩ := unhide H
              have hg : goneE E o.conn = E := by
                refine List.filter_eq_self.2 fun e he => ?_
                have h0 : lookE E o.conn = none := by
                  have := unhide HWT
                  cases hh : lookE E o.conn
                  · rfl
                  · rw [hh] at this; cases this
                have := List.find?_eq_none.1 h0 e he
                simpa using this
              rw [hg] at k1
              exact ⟨by rw [← unhide HWT], hide ⟨O', (unhide H6).1.fr k2 k4 k1, (unhide H6).2.fr k2 k4⟩⟩
            go_wp2_with (first
              | (go_at_call 13; refine C3.mono ?_; clear C3; rintro e w6 ⟨tl, rfl, x1, x2, HS6⟩)
              | (go_at_call 14; refine (C4 _ HS6).mono ?_; clear C4; rintro e w7 ⟨rfl, H7⟩; obtain ⟨O7, HS7⟩ : ∃ O, Hid (Sn w0 O w7 p T E bo o ∧ Two O w7 E ga na gd nd) := unhide H7; clear H7)
              | (go_at_call 11; refine (two_waiting HS7).mono ?_; clear HS7; rintro e w8 ⟨g8, rfl, H8⟩)
              | (go_at_call 15; refine (two_ints_a H8).mono ?_; clear H8; rintro e w9 ⟨rfl, H9⟩)
              | (go_at_call 12; refine (two_due H9).mono ?_; clear H9; rintro e w10 ⟨g10, rfl, H10⟩)
              | (go_at_call 15; refine (two_ints_d H10).mono ?_; clear H10; rintro e w11 ⟨rfl, H11⟩))
            refine ⟨⟨i + 1, congrArg (Value.int .i64) (by omega), by omega, by omega, hide ?_⟩, by simp [intOf]; omega⟩
            exact ⟨O7, T, E, (unhide H11).1.wa, by omega⟩
          -->>relF
      · have f3 : (o.act != 1) = false := by simpa using hd
        clear hd
        go_upto_region 15 with (go_at_call 13; refine C3.mono ?_; clear C3; rintro e w6 ⟨tl, rfl, x1, x2, HS6⟩)
        have x3 := (unhide HS6).1.bk.cells.2.2.2.1
        have x4 := (unhide HS6).1.bk.cells.2.2.2.2.1
        have x5 := (unhide HS6).1.bk.cells.2.2.2.2.2
        obtain ⟨m0, hm0⟩ : ∃ m0, m0 = mayB E o := ⟨_, rfl⟩
        have HM := hide hm0
        clear hm0
        obtain ⟨ln, hln⟩ : ∃ ln, ln = o.pl.length := ⟨_, rfl⟩
        rw [← hln] at x4
        have HLN := hide hln
        clear hln
        go_cut [10] from 18 to 185 (fun c wx => c = .bool m0 ∧ wx = w6)
        case first =>
          --<<may
          as_aux_lemma =>
            cases wt
            all_goals go_wp2_with fail
            all_goals go_meet
            all_goals refine ⟨congrArg Value.bool ?_, rfl⟩
            all_goals have z1 := unhide HM
            all_goals have z2 := unhide HWT
            all_goals have z3 := unhide HLN
            all_goals rw [z1]
            all_goals unfold mayB
            all_goals rw [← z2, ← z3]
            all_goals clear z1 z2 z3 x1 x2 x3 x4 x5
            all_goals rw [Bool.eq_iff_iff]
            all_goals simp only [Bool.and_eq_true, Bool.or_eq_true, decide_eq_true_eq, Bool.not_eq_true', Bool.false_eq_true, Bool.not_true, Bool.not_false, false_iff, true_iff, and_true, true_and, and_false, false_and, not_false_eq_true, iff_true, iff_false, Bool.true_eq_false, not_true_eq_false]
            all_goals omega
          -->>may
        case rest =>
          obtain ⟨rfl, hw⟩ := hcut
          obtain rfl := hw.symm
          clear hw
          go_wp2_with fail
          go_loopw [10, 11] (fun mv kv wx => ∃ j : Nat, kv = .int .i64 ((j : Nat) : Int) ∧ j ≤ ln ∧ mv = .bool (m0 && (o.pl.take j).all (fun x => !wrongB x)) ∧ wx = w6) (fun mv kv _ => ln - (intOf kv).toNat)
          case atStart => exact ⟨0, rfl, Nat.zero_le _, by simp, rfl⟩
          case round =>
            obtain ⟨j, rfl, hj, rfl, hw⟩ := hrel
            obtain rfl := hw.symm
            clear hw
            by_cases hjl : j < ln
            · have f5 : decide ((j : Int) < (ln : Int)) = true := decide_eq_true (by omega)
              obtain ⟨x, hx⟩ : ∃ x, o.pl[j]? = some x := ⟨_, List.getElem?_eq_getElem (by have := unhide HLN; omega)⟩
              have hstep : (o.pl.take (j + 1)).all (fun x => !wrongB x) = ((o.pl.take j).all (fun x => !wrongB x) && !wrongB x) := by
                rw [List.take_add_one, hx]
                simp [List.all_append]
              have HST := hide hstep
              have hlb : ln ≤ 5864062014805 := by rw [unhide HLN]; exact (unhide HS6).1.ok.len
              clear hstep
              cases hm : (m0 && (o.pl.take j).all (fun x => !wrongB x)) with
              | false =>
                --<<plF
                as_aux_lemma =>
                  clear hx
                  have HM2 := hide hm
                  clear hm
                  go_wp2_with fail
                  refine ⟨⟨j + 1, congrArg (Value.int .i64) (by omega), by omega, congrArg Value.bool ?_, trivial⟩, by simp [intOf]; omega⟩
                  rw [unhide HST, ← Bool.and_assoc, unhide HM2]; rfl
                -->>plF
              | true =>
                --<<plT
                as_aux_lemma =>
                  obtain ⟨pb, po, hoa, y0, y1⟩ : ∃ pb po, o.a = some ⟨pb, po, none⟩ ∧ w6.cell? ⟨pb, po + j * 2, none⟩ = some (.int .i64 x.1) ∧ w6.cell? ⟨pb, po + j * 2 + 1, none⟩ = some (.string (bs x.2)) := by
                    rcases ((unhide HS6).1.ok.below (unhide HS6).1.wa.bel).pls with h0 | ⟨pb, po, e, hlt, hc⟩
                    · rw [h0] at hx; simp at hx
                    · exact ⟨pb, po, e, hc j x hx⟩
                  rw [hoa] at x4
                  have g3 : (0 : Int) ≤ (j : Int) := by omega
                  have g4 : (j : Int) < (ln : Int) := by omega
                  have hlx := bs_size x.2
                  have hPOK : x.2.length ≤ maxLen := ((unhide HS6).1.ok.pok x (List.mem_of_getElem? hx)).2
                  clear hx hoa
                  have HM2 := hide hm
                  clear hm
                  go_wp2_with fail
                  all_goals refine ⟨⟨j + 1, congrArg (Value.int .i64) (by omega), by omega, congrArg Value.bool ?_, trivial⟩, by simp [intOf]; omega⟩
                  all_goals rw [unhide HST, ← Bool.and_assoc, unhide HM2, Bool.true_and]
                  all_goals unfold wrongB
                  all_goals clear x1 x2 x3 x4 x5 y0 y1 f1 f2 f3 f5
                  · rename_i q1 q2
                    rw [decide_eq_false (show ¬ x.1 < 0 by omega), decide_eq_false (show ¬ 4 ≤ x.1 by omega), Bool.false_or, Bool.false_or, ← decide_not]
                    exact decide_eq_decide.2 (by omega)
                  · rename_i q1 q2
                    rw [decide_eq_true (show 4 ≤ x.1 by omega)]; simp
                  · rename_i q1
                    rw [decide_eq_true (show x.1 < 0 by omega)]; simp
                -->>plT
            · obtain rfl : j = ln := by omega
              have f5 : decide ((j : Int) < (j : Int)) = false := decide_eq_false (by omega)
              go_upto_region 20 with fail
              obtain ⟨m1, hm1⟩ : ∃ m1, m1 = (m0 && (o.pl.take j).all (fun x => !wrongB x)) := ⟨_, rfl⟩
              rw [← hm1]
              have HM1 : Hid (m1 = decide (refR E o.conn o.kind o.pl o.time = 0)) := by
                rw [hm1, unhide HM, unhide HLN, List.take_length]
                exact hide (may_iff E o)
              clear hm1
              obtain ⟨rr, hrr⟩ : ∃ rr, rr = refR E o.conn o.kind o.pl o.time := ⟨_, rfl⟩
              have HRR := hide hrr
              clear hrr
              have HS6d : Hid (Sn w0 O w6.drew p T E bo o ∧ Two O w6.drew E ga na gd nd) := hide ⟨(unhide HS6).1.below (Below.refl _ _).drew, (unhide HS6).2.below (Below.refl _ _).drew⟩
              have C17 := hide (two_twin HLN HS6d)
              have C16 : Hid (∀ (w7 : World) (a' : Option Addr) (cap' : Nat), Hid (PlsAt w7 a' o.pl ∧ Sn w0 O w7 p T E bo o ∧ Two O w7 E ga na gd nd) → Calls Try.prog 16 #[.pointer (some ⟨p, 0, none⟩), .int .i64 o.conn, .int .i64 o.kind, .slice a' j cap', .int .u64 (o.time : Nat)] w7 fun e w' => e = .returned (.int .i64 rr) ∧ Hid (∃ O' T' E', Sn w0 O' w' p T' E' bo o ∧ Two O' w' E ga na gd nd ∧ T' ≤ T + 1 ∧ (rr ≠ 0 → E' = E) ∧ (rr = 0 → E'.length = na + 1)) ∧ w'.cell? ⟨bo, 2, none⟩ = some (.int .i64 o.conn) ∧ w'.cell? ⟨bo, 3, none⟩ = some (.int .i64 o.kind) ∧ w'.cell? ⟨bo, 4, none⟩ = some (.slice o.a j o.cap) ∧ w'.cell? ⟨bo, 5, none⟩ = some (.int .u64 (o.time : Nat))) := hide fun w7 a' cap' h7 => by
                rw [unhide HRR]
                refine (two_block HLN (by omega) h7).mono ?_
                rintro e w' ⟨rfl, H⟩
                obtain ⟨O', T', E', k1, k2⟩ := unhide H
                have c4 := k1.bk.cells.2.2.2.2.1
                rw [← unhide HLN] at c4
                exact ⟨rfl, H, k1.bk.cells.2.2.1, k1.bk.cells.2.2.2.1, c4, k1.bk.cells.2.2.2.2.2⟩
              go_cut [12] from 18 to 185 (fun c wx => c = .int .i64 rr ∧ Hid (∃ O' T' E', Sn w0 O' wx p T' E' bo o ∧ Two O' wx E ga na gd nd ∧ T' ≤ T + 1 ∧ (rr ≠ 0 → E' = E) ∧ (rr = 0 → E'.length = na + 1)))
              case first =>
                go_region_held3 (fun w' => w'.cell? ⟨bo, 2, none⟩ = some (.int .i64 o.conn) ∧ w'.cell? ⟨bo, 3, none⟩ = some (.int .i64 o.kind) ∧ w'.cell? ⟨bo, 4, none⟩ = some (.slice o.a j o.cap) ∧ w'.cell? ⟨bo, 5, none⟩ = some (.int .u64 (o.time : Nat))) (go_keep) (first
                  | (go_at_call 17; refine (unhide C17).mono ?_; rintro e w7 ⟨a', cap', rfl, v2, v3, v4, v5, H7⟩)
                  | (go_at_call 16; refine (unhide C16 _ _ _ H7).mono ?_; rintro e w8 ⟨rfl, H8, v6, v7, v8, v9⟩))
                all_goals go_wp2_with fail
                all_goals go_meet
                all_goals exact ⟨rfl, H8⟩
              case rest =>
                obtain ⟨rfl, HC⟩ := hcut
                rw [← unhide HRR] at HM1
                have hna : na ≤ 8 := by
                  have := (unhide HS6).2.la
                  have := (unhide HS6).1.wa.few
                  omega
                clear x1 x2 x3 x4 x5 C16 C17 HS6 HS6d HRR HM HWT
                by_cases hr0 : rr = 0
                · obtain rfl : m1 = true := by rw [unhide HM1]; exact decide_eq_true hr0
                  subst hr0
                  --<<okB
                  as_aux_lemma =>
                    have C11 : Calls Try.prog 11 #[.pointer (some ⟨p, 0, none⟩)] wc fun e w' => ∃ g, e = .returned (.slice (some ⟨g, 0, none⟩) (na + 1) (na + 1)) ∧ Hid (∃ O' T' E', Wa w0 O' w' p T' E' ∧ T' ≤ T + 1) := by
                      obtain ⟨O', T', E', k1, k2, k3, k4, k5⟩ := unhide HC
                      refine (wa_waiting w0 O' wc p T' E' k1.wa).mono ?_
                      rintro e w' ⟨g, n', rfl, H⟩
                      obtain ⟨r1, r2, r3, r4, r5⟩ := unhide H
                      obtain rfl : n' = na + 1 := by rw [r2]; exact k5 rfl
                      exact ⟨g, rfl, hide ⟨O', T', E', r4, k3⟩⟩
                    clear HC
                    have f7 : (((na + 1 : Nat) : Int) != (na : Int) + 1) = false := by simp
                    go_wp2_with (go_at_call 11; refine C11.mono ?_; clear C11; rintro e w9 ⟨g9, rfl, H9⟩)
                    refine ⟨⟨i + 1, congrArg (Value.int .i64) (by omega), by omega, by omega, hide ?_⟩, by simp [intOf]; omega⟩
                    obtain ⟨O', T', E', k, k2⟩ := unhide H9
                    exact ⟨O', T', E', k, by omega⟩
                  -->>okB
                · obtain rfl : m1 = false := by rw [unhide HM1]; exact decide_eq_false hr0
                  have f6 : (rr == 0) = false := by simpa using hr0
                  --<<noB
                  as_aux_lemma =>
                    obtain ⟨O', T', HC2, hT2⟩ : ∃ O' T', Hid (Sn w0 O' wc p T' E bo o ∧ Two O' wc E ga na gd nd) ∧ T' ≤ T + 1 := by
                      obtain ⟨O', T', E', k1, k2, k3, k4, k5⟩ := unhide HC
                      obtain rfl := k4 hr0
                      exact ⟨O', T', hide ⟨k1, k2⟩, k3⟩
                    clear HC hr0
                    go_wp2_with (first
                      | (go_at_call 11; refine (two_waiting HC2).mono ?_; clear HC2; rintro e w8 ⟨g8, rfl, H8⟩)
                      | (go_at_call 15; refine (two_ints_a H8).mono ?_; clear H8; rintro e w9 ⟨rfl, H9⟩)
                      | (go_at_call 12; refine (two_due H9).mono ?_; clear H9; rintro e w10 ⟨g10, rfl, H10⟩)
                      | (go_at_call 15; refine (two_ints_d H10).mono ?_; clear H10; rintro e w11 ⟨rfl, H11⟩))
                    refine ⟨⟨i + 1, congrArg (Value.int .i64) (by omega), by omega, by omega, hide ?_⟩, by simp [intOf]; omega⟩
                    exact ⟨O', T', E, (unhide H11).1.wa, by omega⟩
                  -->>noB
end Go.Proofs.Ytfebiemfmiahhaa
