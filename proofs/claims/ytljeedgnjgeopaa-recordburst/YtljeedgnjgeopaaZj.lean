/- record: RecordTorn. -/
import Derived.Test.YtljeedgnjgeopaaZi
namespace Go.Proofs.Ytljeedgnjgeopaa
open Go.ChangeShapes Go.WideShapes Go.ChangeAt Go.RowKit Go.Shelf
set_option linter.unusedVariables false
set_option linter.unusedSimpArgs false
set_option maxRecDepth 100000
set_option maxHeartbeats 4000000
/-- what the law holds behind row -/
structure LwS (es : List Larder.EntP) (f s : Nat) (la : Option Addr) (lc : Nat) (ga : Option Addr) (gn gc : Nat) (na : Option Addr) (nc : Nat) (W : World) : Prop where
  num : Larder.Numd f s es
  lst : EB W la es
  llc : es.length ≤ lc
  gnl : gn = (es.flatMap Larder.recE).length
  log : RB W (.slice ga gn gc) (es.flatMap Larder.recE)
  ends : NB W na (Larder.endsL es)
theorem LwS.below {es : List Larder.EntP} {f s lc gn gc nc : Nat} {la ga na : Option Addr} {W W' : World} (h : LwS es f s la lc ga gn gc na nc W) (hb : Below W.heap.size W W') : LwS es f s la lc ga gn gc na nc W' :=
  ⟨h.num, h.lst.below hb, h.llc, h.gnl, h.log.below hb, h.ends.below hb⟩
theorem RowS.lw {w W : World} {cs : Array Value} {f s lc gn gc nc : Nat} {es : List Larder.EntP} {la ga na : Option Addr} (h : RowS w cs f s es la lc ga gn gc na nc W) : LwS es f s la lc ga gn gc na nc W := by
  obtain ⟨F, r1, r2⟩ := h.lst
  refine ⟨h.num, ?_, ?_, h.log.1, h.log.2, ?_⟩
  · rcases r1 with ⟨e, e0⟩ | ⟨g, cap, cur, e, hg, q1, q2, q3, q4⟩
    · exact .inl (List.length_eq_zero_iff.1 e0)
    · cases e
      refine .inr ⟨g, 0, rfl, blk_lt hg, fun i x hx => ?_⟩
      obtain ⟨ai, ci, z1, z2, z3, z4⟩ := r2 i x hx
      have hi : i < es.length := (List.getElem?_eq_some_iff.1 hx).1
      refine ⟨?_, ?_, ai, ci, ?_, z4.below2 h.bel⟩
      · rw [cell_blk hg, Nat.zero_add, q4 (i * 3) (by omega), z1]
      · rw [cell_blk hg, Nat.zero_add, q4 (i * 3 + 1) (by omega), z2]
      · rw [cell_blk hg, Nat.zero_add, q4 (i * 3 + 2) (by omega), z3]
  · rcases r1 with ⟨e, e0⟩ | ⟨g, cap, cur, e, hg, q1, q2, q3, q4⟩
    · omega
    · cases e; exact q1
  · rcases h.ends with ⟨e, e0⟩ | ⟨g, cap, cur, e, hg, q1, q2, q3, q4⟩
    · exact .inl (by rw [List.length_eq_zero_iff.1 e0]; rfl)
    · cases e
      refine .inr ⟨g, 0, rfl, blk_lt hg, fun i x hx => ?_⟩
      have hi : i < es.length := by have := (List.getElem?_eq_some_iff.1 hx).1; rwa [Larder.endsL_len] at this
      rw [Larder.endsL_get hi] at hx
      cases hx
      rw [cell_blk hg, Nat.zero_add, q4 i (by omega)]
/-- reads, over what the law holds -/
theorem LwS.reads {es : List Larder.EntP} {f s lc gn gc nc : Nat} {la ga na : Option Addr} {w : World} (h : LwS es f s la lc ga gn gc na nc w) {a : Option Addr} {n c : Nat} {b : List Nat} {m k : Nat} (hm : m = es.length) (hk : k ≤ m) (hrow : Larder.Row w64i b (es.take k)) (hr : RB w (.slice a n c) b) (hs : ∀ x ∈ b, x < 256) (hlb : b.length ≤ 1099511627776) :
    Calls Try.prog 9 #[.slice a n c, .slice la m lc, .slice na m nc, .int .i64 (k : Nat)] w fun e w' => e = .returned (.bool true) ∧ Hid (Below w.heap.size w w') :=
  reads_any w a n c b la m lc na nc es k hm hk (by have := h.num.few; omega) hrow hr.rst hs hlb h.lst h.ends (Numd.bd h.num) (by rw [hm]; exact h.llc)
/-- all of it is read -/
theorem LwS.all {es : List Larder.EntP} {f s lc gn gc nc : Nat} {la ga na : Option Addr} {w : World} (h : LwS es f s la lc ga gn gc na nc w) {m : Nat} (hm : m = es.length) :
    Calls Try.prog 9 #[.slice ga gn gc, .slice la m lc, .slice na m nc, .int .i64 (m : Nat)] w fun e w' => e = .returned (.bool true) ∧ Hid (Below w.heap.size w w') := by
  have hrow : Larder.Row w64i (es.flatMap Larder.recE) (es.take m) := by
    have := Larder.row_pre (t := []) h.num (Numd.wraps h.num) fst_none_nil
    rw [List.append_nil] at this
    rw [List.take_of_length_le (by omega)]
    exact this
  exact h.reads hm (Nat.le_refl _) hrow h.log (Numd.small h.num) (by have := h.num.log; omega)
/-- the law's state -/
structure LB (w0 : World) (es : List Larder.EntP) (f s : Nat) (la : Option Addr) (lc : Nat) (ga : Option Addr) (gn gc : Nat) (na : Option Addr) (nc : Nat) (W : World) : Prop where
  bel : Below w0.heap.size w0 W
  lw : LwS es f s la lc ga gn gc na nc W
theorem LB.below {w0 : World} {es : List Larder.EntP} {f s lc gn gc nc : Nat} {la ga na : Option Addr} {W W' : World} (h : LB w0 es f s la lc ga gn gc na nc W) (hb : Below W.heap.size W W') : LB w0 es f s la lc ga gn gc na nc W' := ⟨h.bel.trans (hb.mono h.bel.size), h.lw.below hb⟩
theorem whole_at {es : List Larder.EntP} {n k : Nat} (hk : k = wholeK (Larder.endsL es) n) : k ≤ es.length ∧ Larder.offR es k ≤ n ∧ (k < es.length → n < Larder.offR es (k + 1)) := by
  obtain ⟨h1, h2⟩ := wholeK_spec (Larder.endsL es) n
  have h3 := wholeK_le (Larder.endsL es) n
  rw [Larder.endsL_len, ← hk] at h3
  rw [← hk] at h1 h2
  refine ⟨h3, ?_, fun hlt => h2 _ (Larder.endsL_get hlt)⟩
  cases k with
  | zero => rw [Larder.offR_zero]; omega
  | succ k => exact h1 k _ (by omega) (Larder.endsL_get (by omega))
theorem torn_law (w : World) (fi : Int) (st : Nat) (gra : Option Addr) (grn grc : Nat) (sy zs at_ : Int) (x : Nat) (gs : List (List Larder.ActI)) (hst : st < 18446744073709551616) (hgn : grn = gs.length) (hg : GG w gra gs) (hs : ∀ g ∈ gs, Larder.SmallG g ∧ BdI g) (hgl : grn ≤ 140737488355328) :
    Calls Try.prog 3 #[.agg #[.int .i64 fi, .int .u64 (st : Nat), .slice gra grn grc, .int .i64 sy, .int .i64 zs, .int .i64 at_, .int .u64 (x : Nat)]] w fun e w' => e = .returned (.bool true) ∧ Hid (Below w.heap.size w w') := by
  have b0 := (Below.refl w.heap.size w).alloc (Nat.le_refl _) (.cells #[.int .i64 fi, .int .u64 (st : Nat), .slice gra grn grc, .int .i64 sy, .int .i64 zs, .int .i64 at_, .int .u64 (x : Nat)] 25)
  have h0 := heap_alloc_new w (.cells #[.int .i64 fi, .int .u64 (st : Nat), .slice gra grn grc, .int .i64 sy, .int .i64 zs, .int .i64 at_, .int .u64 (x : Nat)] 25)
  obtain ⟨w0, hw0⟩ : ∃ w0, w.alloc (.cells #[.int .i64 fi, .int .u64 (st : Nat), .slice gra grn grc, .int .i64 sy, .int .i64 zs, .int .i64 at_, .int .u64 (x : Nat)] 25) = w0 := ⟨_, rfl⟩
  rw [hw0] at b0 h0
  have hs0 : w0.heap.size = w.heap.size + 1 := by rw [← hw0]; simp
  have C7 := hide (row_any w0 fi st gra grn grc sy zs at_ x gs hst hgn (hg.below b0) hs hgl)
  have HB0 := hide b0
  have H0 := hide h0
  have x0 := cell_blk h0 0
  have x1 := cell_blk h0 1
  have x2 := cell_blk h0 2
  have x3 := cell_blk h0 3
  have x4 := cell_blk h0 4
  have x5 := cell_blk h0 5
  have x6 := cell_blk h0 6
  unfold RowEnd at C7
  clear hg hs hgn b0 h0
  go_enter Try.func3, Try.ntmps3
  go_wp2_with (first
    | (go_at_call 7; refine (unhide C7).mono ?_; clear C7; rintro e w1 ⟨es, f, s, la, lc, ga, gn, gc, na, nc, rfl, hR⟩; obtain ⟨m, hm⟩ : ∃ m, m = es.length := ⟨_, rfl⟩; rw [← hm]; have HM := hide hm; clear hm; have S1 : Hid (LB w0 es f s la lc ga gn gc na nc w1) := hide (by obtain ⟨cs, h1⟩ := unhide hR; exact ⟨h1.bel, h1.lw⟩); clear hR)
    | (go_at_call 8; refine (starts_any w1).mono ?_; rintro e w2 ⟨rfl, k2⟩; have S2 := hide ((unhide S1).below (unhide k2)); clear k2))
  refine ((unhide S2).lw.all (unhide HM)).mono ?_
  rintro e w3 ⟨rfl, k3⟩
  have S3 := hide ((unhide S2).below (unhide k3))
  clear k3 x0 x1 x2 x5 x6
  have hlt0 : w.heap.size < w0.heap.size := by omega
  have y3 := ((unhide S3).bel.cell (p := ⟨w.heap.size, 3, none⟩) hlt0).trans x3
  have hgn : gn ≤ 1343502640 := by
    have h1 := (unhide S3).lw.gnl
    have h2 := (unhide S3).lw.num.log
    omega
  obtain ⟨gm, hgm⟩ : ∃ gm, gm = gn + 1 := ⟨_, rfl⟩
  have d1 : IntKind.i64.wrap ((gn : Int) + 1) = (gm : Int) := by rw [IntKind.wrap_i64]; omega
  have d2 : (gn : Int) + 1 = (gm : Int) := by omega
  have d3 : wrap64 (gm : Int) = (gm : Int) := by (clear d1; unfold wrap64; omega)
  obtain ⟨n1, hn1⟩ : ∃ n1, n1 = intoN sy gm := ⟨_, rfl⟩
  have hn1l : n1 < gm := by rw [hn1]; exact intoN_lt sy (by omega)
  have C10 := hide (into_any w3 sy gm (by omega) (by omega))
  rw [← hn1] at C10
  have hgc : gn ≤ gc := (unhide S3).lw.log.rst.le
  have e1 : (0 : Int) ≤ (n1 : Int) := by omega
  have e2 : (n1 : Int) ≤ (gn : Int) := by omega
  have e3 : (n1 : Int) ≤ (gc : Int) := by omega
  clear hn1 hn1l hgm
  go_wp2_with (first
    | (go_at_call 10; refine (unhide C10).mono ?_; rintro e w4 ⟨rfl, hw4⟩; obtain rfl := hw4.symm))
  have hgl0 := (unhide S3).lw.gnl
  have hLn : ((es.flatMap Larder.recE).take n1).length = n1 := by rw [List.length_take]; omega
  have C11 := dcopy_any w3 ga gc ((es.flatMap Larder.recE).take n1) (by rw [hLn]; omega) ((RB.bytes (unhide S3).lw.log).1.take n1)
  rw [hLn] at C11
  refine C11.mono ?_
  rintro e w5 ⟨rfl, h5⟩
  obtain ⟨r5, b5⟩ := unhide h5
  have S5 := hide ((unhide S3).below b5)
  obtain ⟨k, hk⟩ : ∃ k, k = wholeK (Larder.endsL es) n1 := ⟨_, rfl⟩
  obtain ⟨hk1, hk2, hk3⟩ := whole_at hk
  have hm := unhide HM
  have C12 := whole_any w5 na m nc (Larder.endsL es) n1 (by rw [Larder.endsL_len]; exact hm) (unhide S5).lw.ends (by have := (unhide S5).lw.num.few; omega)
  rw [← hk] at C12
  have HROW : Hid (∀ z, z < 5000 → Larder.Row w64i ((es.flatMap Larder.recE).take n1 ++ List.replicate z 0) (es.take k)) := hide (fun z hz => Larder.torn_row (unhide S3).lw.num (Numd.wraps (unhide S3).lw.num) n1 z k (by omega) (by omega) hk1 hk2 hk3)
  have HSM : Hid (∀ z, ∀ c ∈ (es.flatMap Larder.recE).take n1 ++ List.replicate z 0, c < 256) := hide (fun z c hc => by
    rcases List.mem_append.1 hc with hc | hc
    · exact Numd.small (unhide S3).lw.num c (List.mem_of_mem_take hc)
    · obtain rfl := (List.mem_replicate.1 hc).2
      decide)
  have HLB : Hid (∀ z, z < 5000 → ((es.flatMap Larder.recE).take n1 ++ List.replicate z 0).length ≤ 1099511627776) := hide (fun z hz => by rw [List.length_append, hLn, List.length_replicate]; omega)
  have C9 := (unhide S5).lw.reads (a := some ⟨w3.heap.size, 0, none⟩) (n := n1) (c := n1) hm (by omega) ((unhide HROW) 0 (by omega)) (by rw [List.replicate_zero, List.append_nil]; exact r5) ((unhide HSM) 0) ((unhide HLB) 0 (by omega))
  have HKM : Hid (k ≤ m) := hide (by omega)
  have C9h := hide C9
  have C12h := hide C12
  have NW5 : Hid (Nw w3 w5 (.slice (some ⟨w3.heap.size, 0, none⟩) n1 n1) ∧ RB w5 (.slice (some ⟨w3.heap.size, 0, none⟩) n1 n1) ((es.flatMap Larder.recE).take n1)) := hide ⟨⟨b5, fun g hg => by cases hg; exact Nat.le_refl _⟩, r5⟩
  clear hk hk1 hk2 hk3 hm hgl0 hLn C11 h5 r5 b5 C12 C9
  go_wp2_with (first
    | (go_at_call 12; refine (unhide C12h).mono ?_; clear C12h; rintro e w6 ⟨rfl, hw6⟩; obtain rfl := hw6.symm; clear hw6)
    | (go_at_call 9; refine (unhide C9h).mono ?_; clear C9h; rintro e w7 ⟨rfl, k7⟩))
  obtain ⟨i5, hi5, hz5, hs5, hb5⟩ := info_parts4 dinfo5
  obtain ⟨z, hz⟩ : ∃ z, z = intoN zs 4096 := ⟨_, rfl⟩
  have hz2 : z < 4096 := by rw [hz]; exact intoN_lt zs (by omega)
  have CZ := hide (fun W : World => into_any W zs 4096 (by omega) (by omega))
  rw [← hz] at CZ
  have X4 := hide x4
  have NW7 : Hid (n1 = n1 + 0 ∧ Nw w3 w7 (.slice (some ⟨w3.heap.size, 0, none⟩) n1 n1) ∧ RB w7 (.slice (some ⟨w3.heap.size, 0, none⟩) n1 n1) ((es.flatMap Larder.recE).take n1 ++ List.replicate 0 0)) := hide ⟨rfl, (unhide NW5).1.on (unhide k7), by rw [List.replicate_zero, List.append_nil]; exact (unhide NW5).2.below (unhide k7)⟩
  have hn1b : n1 ≤ 1343502640 := by omega
  clear hz C10 S1 S2 NW5 k7 e1 e2 e3 d1 d2 d3 y3 x3 x4 S5 hgc hgn
  go_loopw [8, 10] (fun cv iv wr => ∃ (i ct : Nat) (ca : Option Addr) (cc : Nat), cv = .slice ca ct cc ∧ iv = .int .i64 ((i : Nat) : Int) ∧ i ≤ z ∧ ct ≤ n1 + i ∧ Hid (ct = n1 + i ∧ Nw w3 wr (.slice ca ct cc) ∧ RB wr (.slice ca ct cc) ((es.flatMap Larder.recE).take n1 ++ List.replicate i 0))) (fun _ iv _ => z - (intOf iv).toNat)
  case atStart => exact ⟨0, n1, _, _, rfl, rfl, Nat.zero_le _, Nat.le_refl _, NW7⟩
  case round =>
    clear NW7
    obtain ⟨i, ct, ca, cc, rfl, rfl, hi, hct, HW⟩ := hrel
    obtain ⟨q0, q1, q2⟩ := unhide HW
    have hS := (unhide S3).below q1.bel
    have y4 := (hS.bel.cell (p := ⟨w.heap.size, 4, none⟩) hlt0).trans (unhide X4)
    by_cases hiz : i < z
    · have f1 : decide ((i : Int) < (z : Int)) = true := decide_eq_true (by omega)
      have f2 : decide (i < z) = true := decide_eq_true hiz
      have HAL := hide ((Below.refl wr.heap.size wr).alloc (Nat.le_refl _) (.cells #[.int .u8 ((0 : Nat) : Int)] 5))
      have HL : Hid (ct = ((es.flatMap Larder.recE).take n1 ++ List.replicate i 0).length) := hide (by
        obtain ⟨a', c', e⟩ := q2.shape
        injection e)
      have HR : Hid (Rws (wr.alloc (.cells #[.int .u8 ((0 : Nat) : Int)] 5)) 5 1 (.slice ca ct cc) ct (fun j => .int .u8 (((es.flatMap Larder.recE).take n1 ++ List.replicate i 0).getD j 0 : Nat))) := hide (by
        have := q2.below (unhide HAL)
        unfold RB at this
        rw [← unhide HL] at this
        exact this)
      have HNW := hide q1
      have hc1 : (ct + 1) * 1 ≤ 140737488355328 := by omega
      have hc2 : ct + 1 ≤ maxLen := by unfold maxLen; omega
      have HQ := hide q0
      clear q0 q1 q2 hS HW
      go_wp2_with (first
        | (go_at_call 10; refine ((unhide CZ) _).mono ?_; rintro e w8 ⟨rfl, hw8⟩; obtain rfl := hw8.symm; clear hw8)
        | (at_builtin; refine append_gen rfl _ _ 27 rfl 5 i5 _ 1 1 Try.underlying27 hi5 hz5 hs5 hb5 rfl (.slice ca ct cc) ct _ rfl (unhide HR) (some ⟨wr.heap.size, 0, none⟩) 1 1 rfl [.int .u8 ((0 : Nat) : Int)] rfl (by simp) (new_cells wr [.int .u8 ((0 : Nat) : Int)] 5) (by simp [Value.oneCell']) hc1 hc2 ?_; intro v9 w9 h9 k9; obtain ⟨a9, c9, rfl⟩ := h9.shape; have N9 := hide (((unhide HNW).on (unhide HAL)).ga k9); have R9 := hide (RB.snoc (unhide HL) h9); clear h9 k9; go_frame))
      exact ⟨⟨i + 1, ct + 1, _, _, rfl, congrArg (Value.int .i64) (by omega), by omega, by omega, hide ⟨by have := unhide HQ; omega, unhide N9, by rw [List.replicate_succ', ← List.append_assoc]; exact unhide R9⟩⟩, by simp [intOf]; omega⟩
    · obtain rfl : z = i := by omega
      have f1 : decide ((z : Int) < (z : Int)) = false := decide_eq_false (by omega)
      have f9 : decide (z < z) = false := decide_eq_false (by omega)
      have C9 := hide (hS.lw.reads (unhide HM) (unhide HKM) ((unhide HROW) z (by omega)) q2 ((unhide HSM) z) ((unhide HLB) z (by omega)))
      have HBF : Hid (∀ w9, Below wr.heap.size wr w9 → Below w.heap.size w w9) := hide (fun w9 h9 => (unhide HB0).trans ((hS.bel.trans (h9.mono hS.bel.size)).mono (unhide HB0).size))
      clear q0 q1 q2 hS HW
      go_wp2_with (first
        | (go_at_call 10; refine ((unhide CZ) _).mono ?_; rintro e w8 ⟨rfl, hw8⟩; obtain rfl := hw8.symm; clear hw8)
        | (go_at_call 9; refine (unhide C9).mono ?_; rintro e w9 ⟨rfl, k9⟩))
      go_ret
      exact ⟨rfl, hide ((unhide HBF) _ (unhide k9))⟩
end Go.Proofs.Ytljeedgnjgeopaa
