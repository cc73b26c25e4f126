/- record: firstRecord. -/
import Derived.Test.YtljeedgnjgeopaaYk
namespace Go.Proofs.Ytljeedgnjgeopaa
open Go.ChangeShapes Go.WideShapes Go.ChangeAt Go.RowKit
set_option linter.unusedVariables false
set_option linter.unusedSimpArgs false
set_option maxRecDepth 100000
set_option maxHeartbeats 4000000
theorem rdE_nums {l r : List Nat} {e : Larder.EntP} (h : Larder.rdE l = some (e, r)) (hs : ∀ c ∈ l, c < 256) : e.seq < 18446744073709551616 ∧ e.now < 18446744073709551616 := by
  have h2 := Larder.rdE_tk (some l)
  rw [Option.bind_some, h] at h2
  have q1 := ofBig_lt (Larder.tkV (some l) 8) (SmS.tkV (s := some l) hs 8)
  have q2 := ofBig_lt (Larder.tkV (Larder.tkS (some l) 8) 8) ((SmS.tkS (s := some l) hs 8).tkV 8)
  have q3 : Larder.ofBig (Larder.tkV (some l) 8) < 18446744073709551616 := by rcases tk_len (some l) 8 with e | e <;> rw [e] at q1 <;> omega
  have q4 : Larder.ofBig (Larder.tkV (Larder.tkS (some l) 8) 8) < 18446744073709551616 := by rcases tk_len (Larder.tkS (some l) 8) 8 with e | e <;> rw [e] at q2 <;> omega
  cases h4 : (Larder.tkS (Larder.tkS (some l) 8) 8).bind (Larder.rdLst Larder.rdA) with
  | none => rw [h4] at h2; cases h2
  | some p =>
    rw [h4] at h2
    cases h2
    exact ⟨q3, q4⟩
theorem fst_drop {b : List Nat} {e : Larder.EntP} {r : List Nat} (h : (Larder.tkS (some b) 17).bind Larder.rdE = some (e, r)) : 17 ≤ b.length ∧ Larder.rdE (b.drop 17) = some (e, r) := by
  unfold Larder.tkS at h
  dsimp only at h
  by_cases hk : 17 ≤ b.length
  · rw [if_pos hk] at h
    exact ⟨hk, h⟩
  · rw [if_neg hk] at h; cases h
theorem recE_small {E : Larder.EntP} (h : OkN E) : ∀ c ∈ Larder.recE E, c < 256 := fun c hc => by
  unfold Larder.recE Larder.frame at hc
  rw [Larder.bigBytes_big, Larder.bigBytes_big] at hc
  simp only [List.mem_append] at hc
  rcases hc with hc | hc | hc | hc | hc
  · exact head_small _ c hc
  · exact Larder.bigN_small _ _ c hc
  · exact body_small h c hc
  · exact Larder.bigN_small _ _ c hc
  · obtain rfl := List.mem_singleton.1 hc
    decide
theorem first_bad (w : World) (a : Option Addr) (n c : Nat) (b : List Nat) (h : Rst w w.heap.size a n c b) (hs : ∀ x ∈ b, x < 256) (hl : b.length ≤ 1099511627776) (E : Larder.EntP) (r : List Nat) (hR : (Larder.tkS (some b) 17).bind Larder.rdE = some (E, r)) (hok : Larder.okE (E.toI w64i) = false) :
    Calls Try.prog 48 #[.slice a n c] w (FrEnd w b) := by
  obtain ⟨w1, hw1⟩ : ∃ w1, w.alloc (.cells #[.int .i64 0, .int .u64 0, .slice none 0 0] 41) = w1 := ⟨_, rfl⟩
  obtain ⟨hF, hr, hs1⟩ := start48 w a n c b h w1 _ hw1 rfl
  obtain ⟨h17, hE⟩ := fst_drop hR
  have hsm := rdE_small hE (fun x hx => hs x (List.mem_of_mem_drop hx))
  have hnum := rdE_nums hE (fun x hx => hs x (List.mem_of_mem_drop hx))
  have HQ : Hid (Larder.fstR w64i b = none) := hide (by unfold Larder.fstR; rw [hR]; dsimp only; rw [if_neg (by rw [hok]; intro z; exact absurd z.1 (by decide))])
  have C57 : Calls Try.prog 57 #[.pointer (some ⟨w.heap.size + 1, 0, none⟩), .int .i64 17] (w1.alloc (.cells #[.slice a n c, .bool false] 94)) (TkEnd (w1.alloc (.cells #[.slice a n c, .bool false] 94)) (w.heap.size + 1) (Larder.tkV (some b) 17) (Larder.tkS (some b) 17)) := take_any _ (w.heap.size + 1) 17 (some b) hr
  have hS := SmS.tkS (s := some b) hs 17
  have hL := rest_len (s := some b) 17 hl
  generalize Larder.tkS (some b) 17 = S at C57 hS hL hR
  generalize Larder.tkV (some b) 17 = V at C57
  unfold TkEnd at C57
  obtain ⟨v, nw, xs⟩ := E
  dsimp only at hsm hnum
  obtain ⟨sq, hsq⟩ : ∃ sq, sq = IntKind.i64.wrap (v : Int) := ⟨_, rfl⟩
  have C58 : Hid (∀ w3, Kx (w.heap.size + 1) (w1.alloc (.cells #[.slice a n c, .bool false] 94)) w3 ∧ RdAt w3 (w.heap.size + 1) S → Calls Try.prog 58 #[.pointer (some ⟨w.heap.size + 1, 0, none⟩)] w3 fun e w4 => ∃ (ga : Option Addr) (gn gc : Nat), e = .returned (.agg #[.int .i64 sq, .int .u64 (nw : Nat), .slice ga gn gc]) ∧ (w4.alloc (.cells #[.int .i64 sq, .int .u64 (nw : Nat), .slice ga gn gc] 41)).cell? ⟨w.heap.size + 1, 1, none⟩ = some (.bool false) ∧ (w4.alloc (.cells #[.int .i64 sq, .int .u64 (nw : Nat), .slice ga gn gc] 41)).cell? ⟨w4.heap.size, 0, none⟩ = some (.int .i64 sq) ∧ (w4.alloc (.cells #[.int .i64 sq, .int .u64 (nw : Nat), .slice ga gn gc] 41)).cell? ⟨w4.heap.size, 1, none⟩ = some (.int .u64 (nw : Nat)) ∧ (w4.alloc (.cells #[.int .i64 sq, .int .u64 (nw : Nat), .slice ga gn gc] 41)).cell? ⟨w4.heap.size, 2, none⟩ = some (.slice ga gn gc) ∧ Hid (FrAt w (w4.alloc (.cells #[.int .i64 sq, .int .u64 (nw : Nat), .slice ga gn gc] 41)) ∧ AL (w4.alloc (.cells #[.int .i64 sq, .int .u64 (nw : Nat), .slice ga gn gc] 41)) (.slice ga gn gc) xs ∧ gn = xs.length ∧ (∀ q, (Value.slice ga gn gc).ownBlock = some q → w.heap.size ≤ q) ∧ w4.heap.size < (w4.alloc (.cells #[.int .i64 sq, .int .u64 (nw : Nat), .slice ga gn gc] 41)).heap.size)) := hide (by
    rintro w3 ⟨z1, z2⟩
    refine (entry_any w3 _ S z2 hS hL).mono ?_
    rw [hR]
    rintro e w4 ⟨sq', nw', ga, gn, gc, rfl, H⟩
    obtain ⟨u1, u2, u3⟩ := unhide H
    rcases u3 with ⟨e1, -⟩ | ⟨v', xs', r', e1, e2, e3, e4, e5, e6⟩
    · cases e1
    · cases e1
      rw [← hsq] at e2
      subst e2
      have hal := (Below.refl w4.heap.size w4).alloc (Nat.le_refl _) (.cells #[.int .i64 sq', .int .u64 (nw : Nat), .slice ga gn gc] 41)
      have hnew := heap_alloc_new w4 (.cells #[.int .i64 sq', .int .u64 (nw : Nat), .slice ga gn gc] 41)
      exact ⟨ga, gn, gc, rfl, (e4.below hal).flag, cell_blk hnew 0, cell_blk hnew 1, cell_blk hnew 2, hide ⟨(hF.kx (z1.trans u1)).below hal, e6.kt (Kt.of (p := fun _ => True) hal) trivial trivial trivial, e5, fun q hq => by have := u2 q hq; have := z1.size; have := hF.lt; omega, blk_lt hnew⟩⟩)
  have C30 : Hid (∀ W ga gn gc, AL W (.slice ga gn gc) xs ∧ gn = xs.length → Calls Try.prog 30 #[.agg #[.int .i64 sq, .int .u64 (nw : Nat), .slice ga gn gc]] W fun e w' => e = .returned (.bool false) ∧ Hid (Below W.heap.size W w')) := hide (fun W ga gn gc hh => by
    have := written_any W sq nw ga gn gc _ hh.1.grpI (by rw [List.length_map]; exact hh.2)
    have ek : Larder.okE ⟨sq, nw, xs.map fun x => ((x.1 : Int), x.2)⟩ = false := by rw [hsq]; exact hok
    rw [ek] at this
    exact this)
  clear h hs hl hF hr hS hL hR h17 hE hsm hnum hok hsq
  unfold FrEnd
  go_enter Try.func48, Try.ntmps48
  go_wp2_with (first
    | (go_at_call 30; refine ((unhide C30) _ ga gn gc ⟨(unhide k4).2.1, (unhide k4).2.2.1⟩).mono ?_; clear C30; rintro e w6 ⟨rfl, k6⟩; have k7 := hide ((unhide k4).1.below (unhide k6)); obtain ⟨x1, x2, x3, x4, x5, x6, x7⟩ := box3 (.int .i64 0) (.int .u64 0) (.slice none 0 0) (unhide k7).box)
    | (go_at_call 58; refine ((unhide C58) w3 ⟨(unhide k3).1, (unhide k3).2.1⟩).mono ?_; clear C58; rintro e w4 ⟨ga, gn, gc, rfl, y1, y2, y3, y4, k4⟩)
    | (go_at_call 57; refine C57.mono ?_; clear C57; rintro e w3 ⟨a3, n3, c3, rfl, e3, k3⟩; replace e3 := hide e3))
  refine bodyPost_ret (results_box (p := 2) (q := 3) (ty := 41) rfl _ _ w.heap.size 41 _ (0, 0) _ rfl (unhide x7) Try.underlying41 rfl (by kernel_rfl) _ rfl) rfl ?_
  exact .inl ⟨unhide HQ, rfl, hide ((unhide k7).end _ _ _)⟩
theorem first_not (w : World) (a : Option Addr) (n c : Nat) (b : List Nat) (h : Rst w w.heap.size a n c b) (hs : ∀ x ∈ b, x < 256) (hl : b.length ≤ 1099511627776) (E : Larder.EntP) (r : List Nat) (hR : (Larder.tkS (some b) 17).bind Larder.rdE = some (E, r)) (hok : Larder.okE (E.toI w64i) = true) (hpre : (Larder.recE E).isPrefixOf b = false) :
    Calls Try.prog 48 #[.slice a n c] w (FrEnd w b) := by
  obtain ⟨w1, hw1⟩ : ∃ w1, w.alloc (.cells #[.int .i64 0, .int .u64 0, .slice none 0 0] 41) = w1 := ⟨_, rfl⟩
  obtain ⟨hF, hr, hs1⟩ := start48 w a n c b h w1 _ hw1 rfl
  obtain ⟨h17, hE⟩ := fst_drop hR
  have hsm := rdE_small hE (fun x hx => hs x (List.mem_of_mem_drop hx))
  have hnum := rdE_nums hE (fun x hx => hs x (List.mem_of_mem_drop hx))
  have HQ : Hid (Larder.fstR w64i b = none) := hide (by unfold Larder.fstR; rw [hR]; dsimp only; rw [if_neg (by rw [hpre]; intro z; exact absurd z.2 (by decide))])
  have C57 : Calls Try.prog 57 #[.pointer (some ⟨w.heap.size + 1, 0, none⟩), .int .i64 17] (w1.alloc (.cells #[.slice a n c, .bool false] 94)) (TkEnd (w1.alloc (.cells #[.slice a n c, .bool false] 94)) (w.heap.size + 1) (Larder.tkV (some b) 17) (Larder.tkS (some b) 17)) := take_any _ (w.heap.size + 1) 17 (some b) hr
  have hS := SmS.tkS (s := some b) hs 17
  have hL := rest_len (s := some b) 17 hl
  generalize Larder.tkS (some b) 17 = S at C57 hS hL hR
  generalize Larder.tkV (some b) 17 = V at C57
  unfold TkEnd at C57
  obtain ⟨v, nw, xs⟩ := E
  dsimp only at hsm hnum
  obtain ⟨sq, hsq⟩ : ∃ sq, sq = IntKind.i64.wrap (v : Int) := ⟨_, rfl⟩
  have hsv := wrap_le v hnum.1 (Larder.okE_iff hok).1
  have hsq2 : sq = (v : Int) := hsq.trans hsv.1
  have C58 : Hid (∀ w3, Kx (w.heap.size + 1) (w1.alloc (.cells #[.slice a n c, .bool false] 94)) w3 ∧ RdAt w3 (w.heap.size + 1) S → Calls Try.prog 58 #[.pointer (some ⟨w.heap.size + 1, 0, none⟩)] w3 fun e w4 => ∃ (ga : Option Addr) (gn gc : Nat), e = .returned (.agg #[.int .i64 sq, .int .u64 (nw : Nat), .slice ga gn gc]) ∧ (w4.alloc (.cells #[.int .i64 sq, .int .u64 (nw : Nat), .slice ga gn gc] 41)).cell? ⟨w.heap.size + 1, 1, none⟩ = some (.bool false) ∧ (w4.alloc (.cells #[.int .i64 sq, .int .u64 (nw : Nat), .slice ga gn gc] 41)).cell? ⟨w4.heap.size, 0, none⟩ = some (.int .i64 sq) ∧ (w4.alloc (.cells #[.int .i64 sq, .int .u64 (nw : Nat), .slice ga gn gc] 41)).cell? ⟨w4.heap.size, 1, none⟩ = some (.int .u64 (nw : Nat)) ∧ (w4.alloc (.cells #[.int .i64 sq, .int .u64 (nw : Nat), .slice ga gn gc] 41)).cell? ⟨w4.heap.size, 2, none⟩ = some (.slice ga gn gc) ∧ Hid (FrAt w (w4.alloc (.cells #[.int .i64 sq, .int .u64 (nw : Nat), .slice ga gn gc] 41)) ∧ AL (w4.alloc (.cells #[.int .i64 sq, .int .u64 (nw : Nat), .slice ga gn gc] 41)) (.slice ga gn gc) xs ∧ gn = xs.length ∧ (∀ q, (Value.slice ga gn gc).ownBlock = some q → w.heap.size ≤ q) ∧ w4.heap.size < (w4.alloc (.cells #[.int .i64 sq, .int .u64 (nw : Nat), .slice ga gn gc] 41)).heap.size)) := hide (by
    rintro w3 ⟨z1, z2⟩
    refine (entry_any w3 _ S z2 hS hL).mono ?_
    rw [hR]
    rintro e w4 ⟨sq', nw', ga, gn, gc, rfl, H⟩
    obtain ⟨u1, u2, u3⟩ := unhide H
    rcases u3 with ⟨e1, -⟩ | ⟨v', xs', r', e1, e2, e3, e4, e5, e6⟩
    · cases e1
    · cases e1
      rw [← hsq] at e2
      subst e2
      have hal := (Below.refl w4.heap.size w4).alloc (Nat.le_refl _) (.cells #[.int .i64 sq', .int .u64 (nw : Nat), .slice ga gn gc] 41)
      have hnew := heap_alloc_new w4 (.cells #[.int .i64 sq', .int .u64 (nw : Nat), .slice ga gn gc] 41)
      exact ⟨ga, gn, gc, rfl, (e4.below hal).flag, cell_blk hnew 0, cell_blk hnew 1, cell_blk hnew 2, hide ⟨(hF.kx (z1.trans u1)).below hal, e6.kt (Kt.of (p := fun _ => True) hal) trivial trivial trivial, e5, fun q hq => by have := u2 q hq; have := z1.size; have := hF.lt; omega, blk_lt hnew⟩⟩)
  have C30 : Hid (∀ W ga gn gc, AL W (.slice ga gn gc) xs ∧ gn = xs.length → Calls Try.prog 30 #[.agg #[.int .i64 sq, .int .u64 (nw : Nat), .slice ga gn gc]] W fun e w' => e = .returned (.bool true) ∧ Hid (Below W.heap.size W w')) := hide (fun W ga gn gc hh => by
    have := written_any W sq nw ga gn gc _ hh.1.grpI (by rw [List.length_map]; exact hh.2)
    have ek : Larder.okE ⟨sq, nw, xs.map fun x => ((x.1 : Int), x.2)⟩ = true := by rw [hsq]; exact hok
    rw [ek] at this
    exact this)
  obtain ⟨b1, o1, rfl, hb1, hnb, hnc, hcb⟩ : ∃ b1 o1, a = some ⟨b1, o1, none⟩ ∧ b1 < w.heap.size ∧ n = b.length ∧ n ≤ c ∧ ∀ i, i < n → w.cell? ⟨b1, o1 + i, none⟩ = some (.int .u8 (b.getD i 0 : Nat)) := by
    rcases h with ⟨-, -, -, e⟩ | ⟨b1, o1, e, q1, q2, q3, q4⟩
    · rw [e] at h17; simp at h17
    · exact ⟨b1, o1, e, q1, q2, q3, q4⟩
  have hN : OkN ⟨v, nw, xs⟩ := by
    have := OkN_toP hok (e := Larder.EntP.toI w64i ⟨v, nw, xs⟩) (by
      intro x hx
      obtain ⟨y, hy, rfl⟩ := List.mem_map.1 hx
      exact hsm y hy) (by show IntKind.i64.wrap (v : Int) < _; omega)
    rwa [Larder.toP_toI (show IntKind.i64.wrap (v : Int) = (v : Int) from hsv.1)] at this
  have hrs := recE_small hN
  have C31 : Hid (∀ W ga gn gc, AL W (.slice ga gn gc) xs ∧ gn = xs.length → Calls Try.prog 31 #[.agg #[.int .i64 sq, .int .u64 (nw : Nat), .slice ga gn gc]] W fun e w7 => ∃ (g7 n7 c7 : Nat), e = .returned (.slice (some ⟨g7, 0, none⟩) n7 c7) ∧ Hid (n7 = (Larder.recE ⟨v, nw, xs⟩).length ∧ Below W.heap.size W w7 ∧ ∀ i, i < n7 → w7.cell? ⟨g7, 0 + i, none⟩ = some (.int .u8 ((Larder.recE ⟨v, nw, xs⟩).getD i 0 : Nat)))) := hide (fun W ga gn gc hh => by
    have := wrecord W ⟨v, nw, xs⟩ ga gn gc hN hh.1.grp hh.2
    dsimp only at this
    rw [← hsq2] at this
    refine this.mono ?_
    rintro e w7 ⟨a7, n7, c7, rfl, e7, k7⟩
    rcases (unhide k7).2 with ⟨e0, e1⟩ | ⟨g7, cap, cur, e0, hg, q1, q2, q3, q4⟩
    · have := Larder.frame_len (Larder.body ⟨v, nw, xs⟩)
      have e2 : (Larder.recE ⟨v, nw, xs⟩).length = 0 := e1
      unfold Larder.recE at e2
      omega
    · cases e0
      refine ⟨g7, _, c7, rfl, hide ⟨e7, (unhide k7).1.bel, fun i hi => ?_⟩⟩
      rw [cell_blk hg, Nat.zero_add]
      exact q4 i (by omega))
  have C59 : Hid (∀ W g7 n7 c7, Below w.heap.size w W → (n7 = (Larder.recE ⟨v, nw, xs⟩).length ∧ ∀ i, i < n7 → W.cell? ⟨g7, 0 + i, none⟩ = some (.int .u8 ((Larder.recE ⟨v, nw, xs⟩).getD i 0 : Nat))) → Calls Try.prog 59 #[.slice (some ⟨b1, o1, none⟩) n c, .slice (some ⟨g7, 0, none⟩) n7 c7] W fun e w' => e = .returned (.bool false) ∧ W = w') := hide (fun W g7 n7 c7 hW hh => by
    have := prefix_any W b1 o1 n c g7 0 n7 c7 b (Larder.recE ⟨v, nw, xs⟩) hnb hh.1 hnc (fun i hi => by rw [hW.cell (p := ⟨b1, o1 + i, none⟩) hb1]; exact hcb i hi) hh.2 hs hrs
    rw [hpre] at this
    exact this.mono fun e w' ⟨q1, q2⟩ => ⟨q1, q2.symm⟩)
  clear h hs hl hF hr hS hL hR h17 hE hsm hnum hok hsq hpre hsv hsq2 hb1 hnb hnc hcb hN hrs
  unfold FrEnd
  go_enter Try.func48, Try.ntmps48
  go_wp2_with (first
    | (go_at_call 59; refine ((unhide C59) w7 g7 n7 c7 (unhide k77).bel ⟨(unhide k7).1, (unhide k7).2.2⟩).mono ?_; clear C59; rintro e w8 ⟨rfl, rfl⟩)
    | (go_at_call 31; refine ((unhide C31) _ ga gn gc ⟨(unhide k66).2, (unhide k4).2.2.1⟩).mono ?_; clear C31; rintro e w7 ⟨g7, n7, c7, rfl, k7⟩; have y2'' := ((unhide k7).2.1.cell (p := ⟨w4.heap.size, 0, none⟩) (unhide HLT)).trans y2'; have y3'' := ((unhide k7).2.1.cell (p := ⟨w4.heap.size, 1, none⟩) (unhide HLT)).trans y3'; have y4'' := ((unhide k7).2.1.cell (p := ⟨w4.heap.size, 2, none⟩) (unhide HLT)).trans y4'; have k77 := hide ((unhide k66).1.below (unhide k7).2.1); obtain ⟨x1, x2, x3, x4, x5, x6, x7⟩ := box3 (.int .i64 0) (.int .u64 0) (.slice none 0 0) (unhide k77).box)
    | (go_at_call 30; refine ((unhide C30) _ ga gn gc ⟨(unhide k4).2.1, (unhide k4).2.2.1⟩).mono ?_; clear C30; rintro e w6 ⟨rfl, k6⟩; have hlt := (unhide k4).2.2.2.2; have y2' := ((unhide k6).cell (p := ⟨w4.heap.size, 0, none⟩) hlt).trans y2; have y3' := ((unhide k6).cell (p := ⟨w4.heap.size, 1, none⟩) hlt).trans y3; have y4' := ((unhide k6).cell (p := ⟨w4.heap.size, 2, none⟩) hlt).trans y4; have HLT := hide (Nat.lt_of_lt_of_le hlt (unhide k6).size); clear hlt; have k66 : Hid (FrAt w w6 ∧ AL w6 (.slice ga gn gc) xs) := hide ⟨(unhide k4).1.below (unhide k6), (unhide k4).2.1.kt (Kt.of (p := fun _ => True) (unhide k6)) trivial trivial trivial⟩)
    | (go_at_call 58; refine ((unhide C58) w3 ⟨(unhide k3).1, (unhide k3).2.1⟩).mono ?_; clear C58; rintro e w4 ⟨ga, gn, gc, rfl, y1, y2, y3, y4, k4⟩)
    | (go_at_call 57; refine C57.mono ?_; clear C57; rintro e w3 ⟨a3, n3, c3, rfl, e3, k3⟩; replace e3 := hide e3))
  refine bodyPost_ret (results_box (p := 2) (q := 3) (ty := 41) rfl _ _ w.heap.size 41 _ (0, 0) _ rfl (unhide x7) Try.underlying41 rfl (by kernel_rfl) _ rfl) rfl ?_
  exact .inl ⟨unhide HQ, rfl, hide ((unhide k77).end _ _ _)⟩
theorem first_yes (w : World) (a : Option Addr) (n c : Nat) (b : List Nat) (h : Rst w w.heap.size a n c b) (hs : ∀ x ∈ b, x < 256) (hl : b.length ≤ 1099511627776) (E : Larder.EntP) (r : List Nat) (hR : (Larder.tkS (some b) 17).bind Larder.rdE = some (E, r)) (hok : Larder.okE (E.toI w64i) = true) (hpre : (Larder.recE E).isPrefixOf b = true) :
    Calls Try.prog 48 #[.slice a n c] w (FrEnd w b) := by
  obtain ⟨w1, hw1⟩ : ∃ w1, w.alloc (.cells #[.int .i64 0, .int .u64 0, .slice none 0 0] 41) = w1 := ⟨_, rfl⟩
  obtain ⟨hF, hr, hs1⟩ := start48 w a n c b h w1 _ hw1 rfl
  obtain ⟨h17, hE⟩ := fst_drop hR
  have hsm := rdE_small hE (fun x hx => hs x (List.mem_of_mem_drop hx))
  have hnum := rdE_nums hE (fun x hx => hs x (List.mem_of_mem_drop hx))
  have HQ : Hid (Larder.fstR w64i b = some E) := hide (by unfold Larder.fstR; rw [hR]; dsimp only; rw [if_pos ⟨hok, hpre⟩])
  have C57 : Calls Try.prog 57 #[.pointer (some ⟨w.heap.size + 1, 0, none⟩), .int .i64 17] (w1.alloc (.cells #[.slice a n c, .bool false] 94)) (TkEnd (w1.alloc (.cells #[.slice a n c, .bool false] 94)) (w.heap.size + 1) (Larder.tkV (some b) 17) (Larder.tkS (some b) 17)) := take_any _ (w.heap.size + 1) 17 (some b) hr
  have hS := SmS.tkS (s := some b) hs 17
  have hL := rest_len (s := some b) 17 hl
  generalize Larder.tkS (some b) 17 = S at C57 hS hL hR
  generalize Larder.tkV (some b) 17 = V at C57
  unfold TkEnd at C57
  obtain ⟨v, nw, xs⟩ := E
  dsimp only at hsm hnum
  obtain ⟨sq, hsq⟩ : ∃ sq, sq = IntKind.i64.wrap (v : Int) := ⟨_, rfl⟩
  have hsv := wrap_le v hnum.1 (Larder.okE_iff hok).1
  have hsq2 : sq = (v : Int) := hsq.trans hsv.1
  have HSQ := hide hsq2
  have C58 : Hid (∀ w3, Kx (w.heap.size + 1) (w1.alloc (.cells #[.slice a n c, .bool false] 94)) w3 ∧ RdAt w3 (w.heap.size + 1) S → Calls Try.prog 58 #[.pointer (some ⟨w.heap.size + 1, 0, none⟩)] w3 fun e w4 => ∃ (ga : Option Addr) (gn gc : Nat), e = .returned (.agg #[.int .i64 sq, .int .u64 (nw : Nat), .slice ga gn gc]) ∧ (w4.alloc (.cells #[.int .i64 sq, .int .u64 (nw : Nat), .slice ga gn gc] 41)).cell? ⟨w.heap.size + 1, 1, none⟩ = some (.bool false) ∧ (w4.alloc (.cells #[.int .i64 sq, .int .u64 (nw : Nat), .slice ga gn gc] 41)).cell? ⟨w4.heap.size, 0, none⟩ = some (.int .i64 sq) ∧ (w4.alloc (.cells #[.int .i64 sq, .int .u64 (nw : Nat), .slice ga gn gc] 41)).cell? ⟨w4.heap.size, 1, none⟩ = some (.int .u64 (nw : Nat)) ∧ (w4.alloc (.cells #[.int .i64 sq, .int .u64 (nw : Nat), .slice ga gn gc] 41)).cell? ⟨w4.heap.size, 2, none⟩ = some (.slice ga gn gc) ∧ Hid (FrAt w (w4.alloc (.cells #[.int .i64 sq, .int .u64 (nw : Nat), .slice ga gn gc] 41)) ∧ AL (w4.alloc (.cells #[.int .i64 sq, .int .u64 (nw : Nat), .slice ga gn gc] 41)) (.slice ga gn gc) xs ∧ gn = xs.length ∧ (∀ q, (Value.slice ga gn gc).ownBlock = some q → w.heap.size ≤ q) ∧ w4.heap.size < (w4.alloc (.cells #[.int .i64 sq, .int .u64 (nw : Nat), .slice ga gn gc] 41)).heap.size)) := hide (by
    rintro w3 ⟨z1, z2⟩
    refine (entry_any w3 _ S z2 hS hL).mono ?_
    rw [hR]
    rintro e w4 ⟨sq', nw', ga, gn, gc, rfl, H⟩
    obtain ⟨u1, u2, u3⟩ := unhide H
    rcases u3 with ⟨e1, -⟩ | ⟨v', xs', r', e1, e2, e3, e4, e5, e6⟩
    · cases e1
    · cases e1
      rw [← hsq] at e2
      subst e2
      have hal := (Below.refl w4.heap.size w4).alloc (Nat.le_refl _) (.cells #[.int .i64 sq', .int .u64 (nw : Nat), .slice ga gn gc] 41)
      have hnew := heap_alloc_new w4 (.cells #[.int .i64 sq', .int .u64 (nw : Nat), .slice ga gn gc] 41)
      exact ⟨ga, gn, gc, rfl, (e4.below hal).flag, cell_blk hnew 0, cell_blk hnew 1, cell_blk hnew 2, hide ⟨(hF.kx (z1.trans u1)).below hal, e6.kt (Kt.of (p := fun _ => True) hal) trivial trivial trivial, e5, fun q hq => by have := u2 q hq; have := z1.size; have := hF.lt; omega, blk_lt hnew⟩⟩)
  have C30 : Hid (∀ W ga gn gc, AL W (.slice ga gn gc) xs ∧ gn = xs.length → Calls Try.prog 30 #[.agg #[.int .i64 sq, .int .u64 (nw : Nat), .slice ga gn gc]] W fun e w' => e = .returned (.bool true) ∧ Hid (Below W.heap.size W w')) := hide (fun W ga gn gc hh => by
    have := written_any W sq nw ga gn gc _ hh.1.grpI (by rw [List.length_map]; exact hh.2)
    have ek : Larder.okE ⟨sq, nw, xs.map fun x => ((x.1 : Int), x.2)⟩ = true := by rw [hsq]; exact hok
    rw [ek] at this
    exact this)
  obtain ⟨b1, o1, rfl, hb1, hnb, hnc, hcb⟩ : ∃ b1 o1, a = some ⟨b1, o1, none⟩ ∧ b1 < w.heap.size ∧ n = b.length ∧ n ≤ c ∧ ∀ i, i < n → w.cell? ⟨b1, o1 + i, none⟩ = some (.int .u8 (b.getD i 0 : Nat)) := by
    rcases h with ⟨-, -, -, e⟩ | ⟨b1, o1, e, q1, q2, q3, q4⟩
    · rw [e] at h17; simp at h17
    · exact ⟨b1, o1, e, q1, q2, q3, q4⟩
  have hN : OkN ⟨v, nw, xs⟩ := by
    have := OkN_toP hok (e := Larder.EntP.toI w64i ⟨v, nw, xs⟩) (by
      intro x hx
      obtain ⟨y, hy, rfl⟩ := List.mem_map.1 hx
      exact hsm y hy) (by show IntKind.i64.wrap (v : Int) < _; omega)
    rwa [Larder.toP_toI (show IntKind.i64.wrap (v : Int) = (v : Int) from hsv.1)] at this
  have hrs := recE_small hN
  have C31 : Hid (∀ W ga gn gc, AL W (.slice ga gn gc) xs ∧ gn = xs.length → Calls Try.prog 31 #[.agg #[.int .i64 sq, .int .u64 (nw : Nat), .slice ga gn gc]] W fun e w7 => ∃ (g7 n7 c7 : Nat), e = .returned (.slice (some ⟨g7, 0, none⟩) n7 c7) ∧ Hid (n7 = (Larder.recE ⟨v, nw, xs⟩).length ∧ Below W.heap.size W w7 ∧ ∀ i, i < n7 → w7.cell? ⟨g7, 0 + i, none⟩ = some (.int .u8 ((Larder.recE ⟨v, nw, xs⟩).getD i 0 : Nat)))) := hide (fun W ga gn gc hh => by
    have := wrecord W ⟨v, nw, xs⟩ ga gn gc hN hh.1.grp hh.2
    dsimp only at this
    rw [← hsq2] at this
    refine this.mono ?_
    rintro e w7 ⟨a7, n7, c7, rfl, e7, k7⟩
    rcases (unhide k7).2 with ⟨e0, e1⟩ | ⟨g7, cap, cur, e0, hg, q1, q2, q3, q4⟩
    · have := Larder.frame_len (Larder.body ⟨v, nw, xs⟩)
      have e2 : (Larder.recE ⟨v, nw, xs⟩).length = 0 := e1
      unfold Larder.recE at e2
      omega
    · cases e0
      refine ⟨g7, _, c7, rfl, hide ⟨e7, (unhide k7).1.bel, fun i hi => ?_⟩⟩
      rw [cell_blk hg, Nat.zero_add]
      exact q4 i (by omega))
  have C59 : Hid (∀ W g7 n7 c7, Below w.heap.size w W → (n7 = (Larder.recE ⟨v, nw, xs⟩).length ∧ ∀ i, i < n7 → W.cell? ⟨g7, 0 + i, none⟩ = some (.int .u8 ((Larder.recE ⟨v, nw, xs⟩).getD i 0 : Nat))) → Calls Try.prog 59 #[.slice (some ⟨b1, o1, none⟩) n c, .slice (some ⟨g7, 0, none⟩) n7 c7] W fun e w' => e = .returned (.bool true) ∧ W = w') := hide (fun W g7 n7 c7 hW hh => by
    have := prefix_any W b1 o1 n c g7 0 n7 c7 b (Larder.recE ⟨v, nw, xs⟩) hnb hh.1 hnc (fun i hi => by rw [hW.cell (p := ⟨b1, o1 + i, none⟩) hb1]; exact hcb i hi) hh.2 hs hrs
    rw [hpre] at this
    exact this.mono fun e w' ⟨q1, q2⟩ => ⟨q1, q2.symm⟩)
  clear h hs hl hF hr hS hL hR h17 hE hsm hnum hok hsq hpre hsv hsq2 hb1 hnb hnc hcb hN hrs
  unfold FrEnd
  go_enter Try.func48, Try.ntmps48
  go_wp2_with (first
    | (go_at_call 59; refine ((unhide C59) w7 g7 n7 c7 (unhide k77).bel ⟨(unhide k7).1, (unhide k7).2.2⟩).mono ?_; clear C59; rintro e w8 ⟨rfl, rfl⟩)
    | (go_at_call 31; refine ((unhide C31) _ ga gn gc ⟨(unhide k66).2, (unhide k4).2.2.1⟩).mono ?_; clear C31; rintro e w7 ⟨g7, n7, c7, rfl, k7⟩; have y2'' := ((unhide k7).2.1.cell (p := ⟨w4.heap.size, 0, none⟩) (unhide HLT)).trans y2'; have y3'' := ((unhide k7).2.1.cell (p := ⟨w4.heap.size, 1, none⟩) (unhide HLT)).trans y3'; have y4'' := ((unhide k7).2.1.cell (p := ⟨w4.heap.size, 2, none⟩) (unhide HLT)).trans y4'; have k77 := hide ((unhide k66).1.below (unhide k7).2.1); obtain ⟨x1, x2, x3, x4, x5, x6, x7⟩ := box3 (.int .i64 sq) (.int .u64 (nw : Nat)) (.slice ga gn gc) (unhide k77).box)
    | (go_at_call 30; refine ((unhide C30) _ ga gn gc ⟨(unhide k4).2.1, (unhide k4).2.2.1⟩).mono ?_; clear C30; rintro e w6 ⟨rfl, k6⟩; have hlt := (unhide k4).2.2.2.2; have y2' := ((unhide k6).cell (p := ⟨w4.heap.size, 0, none⟩) hlt).trans y2; have y3' := ((unhide k6).cell (p := ⟨w4.heap.size, 1, none⟩) hlt).trans y3; have y4' := ((unhide k6).cell (p := ⟨w4.heap.size, 2, none⟩) hlt).trans y4; have HLT := hide (Nat.lt_of_lt_of_le hlt (unhide k6).size); clear hlt; have k66 : Hid (FrAt w w6 ∧ AL w6 (.slice ga gn gc) xs) := hide ⟨(unhide k4).1.below (unhide k6), (unhide k4).2.1.kt (Kt.of (p := fun _ => True) (unhide k6)) trivial trivial trivial⟩)
    | (go_at_call 58; refine ((unhide C58) w3 ⟨(unhide k3).1, (unhide k3).2.1⟩).mono ?_; clear C58; rintro e w4 ⟨ga, gn, gc, rfl, y1, y2, y3, y4, k4⟩)
    | (go_at_call 57; refine C57.mono ?_; clear C57; rintro e w3 ⟨a3, n3, c3, rfl, e3, k3⟩; replace e3 := hide e3))
  refine bodyPost_ret (results_box (p := 2) (q := 3) (ty := 41) rfl _ _ w.heap.size 41 _ (0, 0) _ rfl (unhide x7) Try.underlying41 rfl (by kernel_rfl) _ rfl) rfl ?_
  refine .inr ⟨⟨v, nw, xs⟩, ga, gn, gc, unhide HQ, ?_, (unhide k4).2.2.1, hide ⟨(unhide k77).end _ _ _, ?_, (unhide k4).2.2.2.1⟩⟩
  · show Ending.returned (.tuple #[.agg #[.int .i64 sq, .int .u64 (nw : Nat), .slice ga gn gc], .int .i64 (n7 : Int)]) = _
    rw [unhide HSQ, (unhide k7).1]
  · have h1 := (unhide k66).2.kt (Kt.of (p := fun _ => True) (unhide k7).2.1) trivial trivial trivial
    have r0 := set_block w7 w.heap.size 0 (.int .i64 sq) _ _ _ (unhide k77).box
    have r1 := set_block _ w.heap.size 1 (.int .u64 (nw : Nat)) _ _ _ r0
    exact ((h1.kt (Kt.put (unhide k77).box) (by decide) (by decide) (by decide)).kt (Kt.put r0) (by decide) (by decide) (by decide)).kt (Kt.put r1) (by decide) (by decide) (by decide)
theorem first_any (w : World) (a : Option Addr) (n c : Nat) (b : List Nat) (h : Rst w w.heap.size a n c b) (hs : ∀ x ∈ b, x < 256) (hl : b.length ≤ 1099511627776) :
    Calls Try.prog 48 #[.slice a n c] w (FrEnd w b) := by
  cases hR : (Larder.tkS (some b) 17).bind Larder.rdE with
  | none => exact first_none w a n c b h hs hl hR
  | some p =>
    obtain ⟨E, r⟩ := p
    cases hok : Larder.okE (E.toI w64i) with
    | false => exact first_bad w a n c b h hs hl E r hR hok
    | true =>
      cases hpre : (Larder.recE E).isPrefixOf b with
      | false => exact first_not w a n c b h hs hl E r hR hok hpre
      | true => exact first_yes w a n c b h hs hl E r hR hok hpre
end Go.Proofs.Ytljeedgnjgeopaa
