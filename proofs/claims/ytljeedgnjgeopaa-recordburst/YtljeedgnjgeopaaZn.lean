/- record: RecordBurst. -/
import Derived.Test.YtljeedgnjgeopaaZj
import Derived.Test.YtljeedgnjgeopaaZm
namespace Go.Proofs.Ytljeedgnjgeopaa
open Go.ChangeShapes Go.WideShapes Go.ChangeAt Go.RowKit Go.Shelf
set_option linter.unusedVariables false
set_option linter.unusedSimpArgs false
set_option maxRecDepth 100000
set_option maxHeartbeats 4000000
theorem TuS.rb {w W : World} {n : Nat} {M : List Nat} (h : TuS w n M W) (hn : n ≤ 140737488355328) : RB W (.slice (some ⟨w.heap.size, 0, none⟩) n n) M := by
  obtain ⟨cur, h1, h2, h3⟩ := h.row
  exact RB.of h1 h.len (by unfold maxLen; omega) h2 h3
theorem smallL_of {l : List Nat} (h : ∀ c ∈ l, c < 256) : Larder.SmallL l := fun i hi => by
  rw [List.getD_eq_getElem?_getD, List.getElem?_eq_getElem hi]
  exact h _ (List.getElem_mem hi)
theorem of_small {l : List Nat} (h : Larder.SmallL l) : ∀ c ∈ l, c < 256 := fun c hc => by
  obtain ⟨i, hi⟩ := List.getElem?_of_mem hc
  have hl := (List.getElem?_eq_some_iff.1 hi).1
  have := h i hl
  rw [List.getD_eq_getElem?_getD, hi] at this
  exact this
theorem burst_law (w : World) (fi : Int) (st : Nat) (gra : Option Addr) (grn grc : Nat) (sy zs at_ : Int) (x : Nat) (gs : List (List Larder.ActI)) (hst : st < 18446744073709551616) (hx : x < 18446744073709551616) (hgn : grn = gs.length) (hg : GG w gra gs) (hs : ∀ g ∈ gs, Larder.SmallG g ∧ BdI g) (hgl : grn ≤ 140737488355328) :
    Calls Try.prog 4 #[.agg #[.int .i64 fi, .int .u64 (st : Nat), .slice gra grn grc, .int .i64 sy, .int .i64 zs, .int .i64 at_, .int .u64 (x : Nat)]] w fun e w' => e = .returned (.bool true) ∧ Hid (Below w.heap.size w w') := by
  have b0 := (Below.refl w.heap.size w).alloc (Nat.le_refl _) (.cells #[.int .i64 fi, .int .u64 (st : Nat), .slice gra grn grc, .int .i64 sy, .int .i64 zs, .int .i64 at_, .int .u64 (x : Nat)] 25)
  have h0 := heap_alloc_new w (.cells #[.int .i64 fi, .int .u64 (st : Nat), .slice gra grn grc, .int .i64 sy, .int .i64 zs, .int .i64 at_, .int .u64 (x : Nat)] 25)
  obtain ⟨w0, hw0⟩ : ∃ w0, w.alloc (.cells #[.int .i64 fi, .int .u64 (st : Nat), .slice gra grn grc, .int .i64 sy, .int .i64 zs, .int .i64 at_, .int .u64 (x : Nat)] 25) = w0 := ⟨_, rfl⟩
  rw [hw0] at b0 h0
  have hs0 : w0.heap.size = w.heap.size + 1 := by rw [← hw0]; simp
  have C7 := hide (row_any w0 fi st gra grn grc sy zs at_ x gs hst hgn (hg.below b0) hs hgl)
  have HB0 := hide b0
  have H0 := hide h0
  have x0 := cell_blk h0 0
  have x1 := cell_blk h0 1
  have x2 := cell_blk h0 2
  have x3 := cell_blk h0 3
  have x4 := cell_blk h0 4
  have x5 := cell_blk h0 5
  have x6 := cell_blk h0 6
  unfold RowEnd at C7
  clear hg hs hgn b0 h0
  go_enter Try.func4, Try.ntmps4
  go_wp2_with (first
    | (go_at_call 7; refine (unhide C7).mono ?_; clear C7; rintro e w1 ⟨es, f, s, la, lc, ga, gn, gc, na, nc, rfl, hR⟩; obtain ⟨m, hm⟩ : ∃ m, m = es.length := ⟨_, rfl⟩; rw [← hm]; have HM := hide hm; clear hm; have S1 : Hid (LB w0 es f s la lc ga gn gc na nc w1) := hide (by obtain ⟨cs, h1⟩ := unhide hR; exact ⟨h1.bel, h1.lw⟩); clear hR)
    | (go_at_call 8; refine (starts_any w1).mono ?_; rintro e w2 ⟨rfl, k2⟩; have S2 := hide ((unhide S1).below (unhide k2)); clear k2))
  refine ((unhide S2).lw.all (unhide HM)).mono ?_
  rintro e w3 ⟨rfl, k3⟩
  have S3 := hide ((unhide S2).below (unhide k3))
  clear k3 x0 x1 x2 x3 x4
  have hlt0 : w.heap.size < w0.heap.size := by omega
  have y5 := ((unhide S3).bel.cell (p := ⟨w.heap.size, 5, none⟩) hlt0).trans x5
  have y6 := ((unhide S3).bel.cell (p := ⟨w.heap.size, 6, none⟩) hlt0).trans x6
  have hgl0 := (unhide S3).lw.gnl
  have hgn : gn ≤ 1343502640 := by
    have h2 := (unhide S3).lw.num.log
    omega
  obtain ⟨gm, hgm⟩ : ∃ gm, gm = 8 * gn + 1 := ⟨_, rfl⟩
  have d1 : IntKind.i64.wrap (8 * (gn : Int)) = 8 * (gn : Int) := by rw [IntKind.wrap_i64]; omega
  have d2 : IntKind.i64.wrap (8 * (gn : Int) + 1) = (gm : Int) := by rw [IntKind.wrap_i64]; omega
  obtain ⟨a1, ha1⟩ : ∃ a1, a1 = intoN at_ gm := ⟨_, rfl⟩
  have ha1l : a1 < gm := by rw [ha1]; exact intoN_lt at_ (by omega)
  have hlt3 : w.heap.size < w3.drew.heap.size := Nat.lt_of_lt_of_le hlt0 (unhide S3).bel.size
  have C10 : Hid (Calls Try.prog 10 #[.int .i64 at_, .int .i64 (gm : Nat)] w3.drew fun e w' => e = .returned (.int .i64 (a1 : Nat)) ∧ w'.cell? ⟨w.heap.size, 5, none⟩ = some (.int .i64 at_) ∧ w'.cell? ⟨w.heap.size, 6, none⟩ = some (.int .u64 (x : Nat)) ∧ w' = w3.drew) := hide (by
    rw [ha1]
    exact (into_any w3.drew at_ gm (by omega) (by omega)).mono (fun e w' h => ⟨h.1, by rw [h.2]; exact y5, by rw [h.2]; exact y6, h.2⟩))
  have S3d := hide ((unhide S3).below (below_drew (Below.refl _ w3)))
  have hsm := Numd.small (unhide S3).lw.num
  have hlen : gn = (es.flatMap Larder.recE).length := hgl0
  have C13 : Hid (Calls Try.prog 13 #[.slice ga gn gc, .int .i64 (a1 : Nat), .int .u64 (x : Nat)] w3.drew fun e w' => e = .returned (.tuple #[.slice (some ⟨w3.heap.size, 0, none⟩) gn gn, .int .i64 (Larder.fI (Larder.firstK (8 * gn) a1 x 64))]) ∧ w'.cell? ⟨w.heap.size, 5, none⟩ = some (.int .i64 at_) ∧ w'.cell? ⟨w.heap.size, 6, none⟩ = some (.int .u64 (x : Nat)) ∧ Hid (TuS w3.drew gn (Larder.turnK (es.flatMap Larder.recE) a1 x 64) w')) := hide ((turned_any w3.drew ga gn gc (es.flatMap Larder.recE) a1 x hlen hx (by omega) (by omega) (RB.bytes (unhide S3d).lw.log).1 (smallL_of hsm)).mono (fun e w' h => ⟨h.1, ((unhide h.2).bel.cell (p := ⟨w.heap.size, 5, none⟩) hlt3).trans y5, ((unhide h.2).bel.cell (p := ⟨w.heap.size, 6, none⟩) hlt3).trans y6, h.2⟩))
  clear ha1 ha1l hgm hlen hsm hgl0 S1 S2
  go_wp2_with fail
  go_region_held3 (fun W => W.cell? ⟨w.heap.size, 5, none⟩ = some (.int .i64 at_) ∧ W.cell? ⟨w.heap.size, 6, none⟩ = some (.int .u64 (x : Nat))) (go_keep) (first | (go_at_call 10; (with_reducible refine (unhide C10).mono ?_); rintro e w4 ⟨rfl, u5, u6, hw4⟩; obtain rfl := hw4.symm; clear hw4) | (go_at_call 13; (with_reducible refine (unhide C13).mono ?_); rintro e w5 ⟨rfl, v5, v6, h5⟩))
  have S5 := hide ((unhide S3d).below (unhide h5).bel)
  have hTR := (unhide h5).rb (by omega)
  have hlog := (unhide S3).lw.num.log
  have hgl0 := (unhide S3).lw.gnl
  have hsm := Numd.small (unhide S3).lw.num
  have hsc := of_small (Larder.turnK_small (smallL_of hsm) a1 x 64)
  have hcl : (Larder.turnK (es.flatMap Larder.recE) a1 x 64).length ≤ 1099511627776 := by rw [Larder.turnK_length]; omega
  have hm := unhide HM
  have HBF : Hid (∀ w9, Below w5.heap.size w5 w9 → Below w.heap.size w w9) := hide (fun w9 h9 => (unhide HB0).trans (((unhide S5).bel.trans (h9.mono (unhide S5).bel.size)).mono (unhide HB0).size))
  cases hfk : Larder.firstK (8 * gn) a1 x 64 with
  | none =>
    have hrow : Larder.Row w64i (Larder.turnK (es.flatMap Larder.recE) a1 x 64) (es.take m) := by
      rw [hgl0] at hfk
      rw [Larder.firstK_none 64 hfk, List.take_of_length_le (by omega)]
      have := Larder.row_pre (t := []) (unhide S3).lw.num (Numd.wraps (unhide S3).lw.num) fst_none_nil
      rwa [List.append_nil] at this
    have C9 := hide ((unhide S5).lw.reads (a := some ⟨w3.heap.size, 0, none⟩) hm (Nat.le_refl _) hrow hTR hsc hcl)
    have e1 : Larder.fI none = -1 := rfl
    clear hTR hlog hgl0 hsm hsc hcl hm hfk hrow h5 C10 C13 S3 S3d y5 y6 u5 u6 v5 v6 x5 x6 d1 d2
    rw [e1]
    clear e1
    go_wp2_with (first
      | (go_at_call 9; (with_reducible refine (unhide C9).mono ?_); rintro e w9 ⟨rfl, k9⟩))
    go_ret
    exact ⟨rfl, hide ((unhide HBF) _ (unhide k9))⟩
  | some v =>
    obtain ⟨k, hk⟩ : ∃ k, k = wholeK (Larder.endsL es) v := ⟨_, rfl⟩
    obtain ⟨hk1, hk2, hk3⟩ := whole_at hk
    have C12 := whole_any w5 na m nc (Larder.endsL es) v (by rw [Larder.endsL_len]; exact hm) (unhide S5).lw.ends (by have := (unhide S5).lw.num.few; omega)
    rw [← hk] at C12
    have C12h := hide C12
    have hrow : Larder.Row w64i (Larder.turnK (es.flatMap Larder.recE) a1 x 64) (es.take k) := by
      rw [hgl0] at hfk
      exact Larder.burst_row (unhide S3).lw.num (Numd.wraps (unhide S3).lw.num) (smallL_of hsm) a1 x v k hfk hk1 hk2 hk3
    have C9 := hide ((unhide S5).lw.reads (a := some ⟨w3.heap.size, 0, none⟩) hm (by omega) hrow hTR hsc hcl)
    have e1 : Larder.fI (some v) = (v : Int) := rfl
    have f1 : decide ((v : Int) < 0) = false := decide_eq_false (by omega)
    clear hTR hlog hgl0 hsm hsc hcl hm hfk hrow h5 C10 C13 S3 S3d y5 y6 u5 u6 v5 v6 x5 x6 hk hk1 hk2 hk3 C12 d1 d2
    rw [e1]
    clear e1
    go_wp2_with (first
      | (go_at_call 12; (with_reducible refine (unhide C12h).mono ?_); rintro e w6 ⟨rfl, hw6⟩; obtain rfl := hw6.symm; clear hw6)
      | (go_at_call 9; (with_reducible refine (unhide C9).mono ?_); rintro e w9 ⟨rfl, k9⟩))
    go_ret
    exact ⟨rfl, hide ((unhide HBF) _ (unhide k9))⟩
end Go.Proofs.Ytljeedgnjgeopaa
