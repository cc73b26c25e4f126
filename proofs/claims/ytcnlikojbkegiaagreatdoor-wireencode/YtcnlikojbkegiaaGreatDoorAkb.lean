/- asked: a Command. -/
import Derived.Test.YtcnlikojbkegiaaGreatDoorAka
namespace Go.Proofs.YtcnlikojbkegiaaGreatDoor
open Go.ChangeShapes Go.WideShapes Go.ChangeAt Go.RowKit
set_option linter.unusedVariables false
set_option linter.unusedSimpArgs false
set_option maxRecDepth 20000
set_option maxHeartbeats 4000000

/-- the Ask in its box -/
def akC (K : Int) (da : Option Addr) (dn dc : Nat) (la : Option Addr) (n lc : Nat) (k0 k1 : Int) (ta : Option Addr) (tn' tc : Nat) (qa : Option Addr) (qn qc : Nat) : Array Value := #[.int .i64 K, .slice da dn dc, .slice la n lc, .int .i64 k0, .int .i64 k1, .slice ta tn' tc, .slice qa qn qc]
structure S2 (W W2 : World) (C : Array Value) (dn : Nat) (L : List (List Nat)) : Prop where
  bel : Below (W.heap.size + 1) (W.alloc (.cells C 52)) W2
  few : dn + hvS L ≤ 16777216
theorem S2.old {W W2 : World} {C : Array Value} {dn : Nat} {L : List (List Nat)} (h : S2 W W2 C dn L) : Below W.heap.size W W2 := ((Below.refl W.heap.size W).alloc (Nat.le_refl _) _).trans (h.bel.mono (Nat.le_succ _))
theorem S2.cell {W W2 : World} {C : Array Value} {dn : Nat} {L : List (List Nat)} (h : S2 W W2 C dn L) (j : Nat) (v : Value) (hv : C[j]? = some v) : W2.cell? ⟨W.heap.size, j, none⟩ = some v := by
  rw [h.bel.cell (Nat.lt_succ_self _), cell_of_row _ _ _ _ _ _ (heap_alloc_new W _)]; exact hv
theorem S2.below {W W2 W3 : World} {C : Array Value} {dn : Nat} {L : List (List Nat)} (h : S2 W W2 C dn L) (hb : Below W2.heap.size W2 W3) : S2 W W3 C dn L := ⟨h.bel.trans (hb.mono (by have := h.bel.size; simp at this; omega)), h.few⟩
theorem S2.small {W W2 : World} {C : Array Value} {dn : Nat} {L : List (List Nat)} (h : S2 W W2 C dn L) : (∀ T ∈ L, T.length ≤ 268435456) ∧ L.length ≤ 268435456 := by
  have := h.few
  refine ⟨fun T hT => ?_, ?_⟩
  · have := hvS_mem hT; omega
  · have := hvS_len L; omega
/-- behind spares -/
structure S3 (W W2 W3 : World) (C : Array Value) (dn n : Nat) (L : List (List Nat)) (gm g9 : Nat) (fv : Value) (G : Nat → Nat) : Prop where
  s2 : S2 W W2 C dn L
  sp : Spd W2 W3 gm n g9 fv L G
theorem S3.now {W W2 W3 : World} {C : Array Value} {dn n : Nat} {L : List (List Nat)} {gm g9 : Nat} {fv : Value} {G : Nat → Nat} (h : S3 W W2 W3 C dn n L gm g9 fv G) : S2 W W3 C dn L := h.s2.below h.sp.bel
/-- behind Command -/
structure S4 (W W2 W3 W4 : World) (C : Array Value) (dn n : Nat) (L : List (List Nat)) (gm g9 : Nat) (fv : Value) (G : Nat → Nat) (l : List Nat) (v : Value) : Prop where
  s3 : S3 W W2 W3 C dn n L gm g9 fv G
  gr : Gro W3 W4 W3.heap.size v l.length l
theorem S4.now {W W2 W3 W4 : World} {C : Array Value} {dn n : Nat} {L : List (List Nat)} {gm g9 : Nat} {fv : Value} {G : Nat → Nat} {l : List Nat} {v : Value} (h : S4 W W2 W3 W4 C dn n L gm g9 fv G l v) : S2 W W4 C dn L := h.s3.now.below h.gr.bel
/-- behind the document's Command -/
structure S5 (W W2 W3 W4 W5 : World) (C : Array Value) (dn n : Nat) (L : List (List Nat)) (gm g9 : Nat) (fv : Value) (G : Nat → Nat) (l : List Nat) (v : Value) (ra : Option Addr) : Prop where
  s4 : S4 W W2 W3 W4 C dn n L gm g9 fv G l v
  rb : Bytes W5 ra l
  ro : ∀ g off, 0 < l.length → ra = some ⟨g, off, none⟩ → W4.heap.size ≤ g
  bel : Below W4.heap.size W4 W5
theorem S5.now {W W2 W3 W4 W5 : World} {C : Array Value} {dn n : Nat} {L : List (List Nat)} {gm g9 : Nat} {fv : Value} {G : Nat → Nat} {l : List Nat} {v : Value} {ra : Option Addr} (h : S5 W W2 W3 W4 W5 C dn n L gm g9 fv G l v ra) : S2 W W5 C dn L := h.s4.now.below h.bel
theorem S5.spd {W W2 W3 W4 W5 : World} {C : Array Value} {dn n : Nat} {L : List (List Nat)} {gm g9 : Nat} {fv : Value} {G : Nat → Nat} {l : List Nat} {v : Value} {ra : Option Addr} (h : S5 W W2 W3 W4 W5 C dn n L gm g9 fv G l v ra) : Spd W2 W5 gm n g9 fv L G := (h.s4.s3.sp.below h.s4.gr.bel).below h.bel
/-- behind sames: all is still there but the full lists -/
theorem S5.after {W W2 W3 W4 W5 W6 : World} {C : Array Value} {dn n : Nat} {L : List (List Nat)} {gm g9 : Nat} {fv : Value} {G : Nat → Nat} {l : List Nat} {v : Value} {ra : Option Addr} (h : S5 W W2 W3 W4 W5 C dn n L gm g9 fv G l v ra) (hk : Kept (fun b => ∃ k, k < n ∧ b = G k) W5 W6) :
    Below W.heap.size W W6 ∧ Rws W6 5 1 v l.length (byV l) ∧ (∀ g, v.ownBlock = some g → W.heap.size ≤ g) ∧ Bytes W6 ra l := by
  have gl : ∀ k, k < n → W2.heap.size ≤ G k ∧ G k < W3.heap.size := fun k hk => ⟨(h.s4.s3.sp.row k hk).1, (h.s4.s3.sp.row k hk).2.lt (G k) rfl⟩
  have s2 := h.s4.s3.s2.old.size
  have s23 := h.s4.s3.sp.bel.size
  have s34 := h.s4.gr.bel.size
  have s45 := h.bel.size
  have r5 := h.s4.gr.row.below h.bel
  refine ⟨h.now.old.trans ⟨hk.os, hk.tape, hk.output, hk.size, fun b hb => hk.blk b (by omega) (fun ⟨k, hk', e⟩ => by have := gl k hk'; omega)⟩, hk.rws r5 (fun g hg ⟨k, hk', e⟩ => ?_), fun g hg => ?_, ?_⟩
  · have := h.s4.gr.own g hg
    have := gl k hk'
    omega
  · have := h.s4.gr.own g hg
    omega
  · rcases h.rb with e | ⟨b, off, rfl, hb, hc⟩
    · exact .inl e
    · rcases Nat.eq_zero_or_pos l.length with q | q
      · exact .inl (List.eq_nil_of_length_eq_zero q)
      · have hg := h.ro b off q rfl
        refine .inr ⟨b, off, rfl, Nat.lt_of_lt_of_le hb hk.size, fun i hi => ?_⟩
        rw [hk.cell hb (fun ⟨k, hk', e⟩ => by have := gl k hk'; omega)]
        exact hc i hi
theorem asked_cmd (w0 w1 W : World) (pb t : Nat) (m : Int) (da la : Option Addr) (dn dc n lc d : Nat) (L : List (List Nat)) (r0 r1 r2 r3 : Value)
    (hT : Td w1 W pb t m [] []) (h01 : Below w0.heap.size w0 w1) (hp : w0.heap.size ≤ pb) (ht : Tab w0) (hn : n = L.length) (hA : ArgsW w0 la L) (hR : RepAt w0 d r0 r1 r2 r3) (hS : ∀ T ∈ L, Small T) (hd : dn ≤ 140737488351232) (hl : n ≤ 140737488351232) (htt : t < 1000000) (hm : -4611686018427387904 ≤ m ∧ m ≤ 4611686018427387904) :
    Calls Tryz.prog 9 #[.agg #[.int .i64 2, .slice da dn dc, .slice la n lc, r0, r1, r2, r3], .pointer (some ⟨pb + 1, 0, none⟩)] W fun e w' => e = .returned (.bool true) ∧ ∃ m', Hid (Td w1 w' pb (t + 1) m' [] []) ∧ m - 1000000 ≤ m' ∧ m' ≤ m := by
  have h0W := hT.old h01 hp
  have hRW := hR.below h0W
  obtain ⟨d, rfl⟩ : ∃ d', d = d' + 1 := by
    cases d with
    | zero => exact absurd hR id
    | succ d => exact ⟨d, rfl⟩
  obtain ⟨⟨k0, rfl⟩, ⟨k1, rfl⟩, ⟨ta, tn', tc, rfl, htn⟩, qa, qn, qc, rfl, hln, -⟩ := hR
  obtain ⟨l, E, hlen, hBC⟩ := both_any L hS
  obtain ⟨ll, hll⟩ : ∃ ll, ll = l.length := ⟨_, rfl⟩
  have hWB : Below W.heap.size W (W.alloc (.cells #[.int .i64 2, .slice da dn dc, .slice la n lc, .int .i64 k0, .int .i64 k1, .slice ta tn' tc, .slice qa qn qc] 52)) := (Below.refl _ _).alloc (Nat.le_refl _) _
  have CH : Hid (Calls Tryz.prog 13 #[.agg #[.int .i64 2, .slice da dn dc, .slice la n lc, .int .i64 k0, .int .i64 k1, .slice ta tn' tc, .slice qa qn qc]] (W.alloc (.cells #[.int .i64 2, .slice da dn dc, .slice la n lc, .int .i64 k0, .int .i64 k1, .slice ta tn' tc, .slice qa qn qc] 52)) fun e w' => ∃ h : Bool, e = .returned (.bool h) ∧ Hid (Below W.heap.size W w') ∧ (h = false → Hid (S2 W w' (akC 2 da dn dc la n lc k0 k1 ta tn' tc qa qn qc) dn L)) ∧ w'.cell? ⟨W.heap.size, 0, none⟩ = some (.int .i64 2) ∧ w'.cell? ⟨W.heap.size, 2, none⟩ = some (.slice la n lc)) := hide (by
    refine (heavy_any _ 2 da la dn dc n lc (d + 1) L _ _ _ _ hn ?_ (hRW.below hWB) hd hl).mono ?_
    · rcases hA with h | ⟨b, off, e, hlt, hc⟩
      · exact .inl h
      · have hb0 := h0W.trans (hWB.mono h0W.size)
        refine .inr ⟨b, off, e, Nat.lt_of_lt_of_le hlt hb0.size, fun k T hT => ?_⟩
        obtain ⟨x, c, y1, y2, y3⟩ := hc k T hT
        exact ⟨x, c, (hb0.cell hlt).trans y1, y2.below hb0, y3⟩
    · rintro e w' ⟨h, rfl, kb, kh⟩
      have bb : Below (W.heap.size + 1) (W.alloc (.cells (akC 2 da dn dc la n lc k0 k1 ta tn' tc qa qn qc) 52)) w' := (unhide kb).mono (by simp)
      have cc : ∀ j v, (akC 2 da dn dc la n lc k0 k1 ta tn' tc qa qn qc)[j]? = some v → w'.cell? ⟨W.heap.size, j, none⟩ = some v := fun j v hv => by
        rw [bb.cell (Nat.lt_succ_self _), cell_of_row _ _ _ _ _ _ (heap_alloc_new W _)]; exact hv
      exact ⟨h, rfl, hide (hWB.trans (bb.mono (Nat.le_succ _))), fun e => hide ⟨bb, kh e⟩, cc 0 _ rfl, cc 2 _ rfl⟩)
  have CSP : Hid (∀ W2, Hid (S2 W W2 (akC 2 da dn dc la n lc k0 k1 ta tn' tc qa qn qc) dn L) → Calls Tryz.prog 20 #[.slice la n lc] W2 fun e w' => ∃ gm g9 fa fc G, e = .returned (.tuple #[.slice (some ⟨gm, 0, none⟩) (n + 1) (n + 1), .slice fa n fc]) ∧ Hid (S3 W W2 w' (akC 2 da dn dc la n lc k0 k1 ta tn' tc qa qn qc) dn n L gm g9 (.slice fa n fc) G) ∧ w'.cell? ⟨W.heap.size, 2, none⟩ = some (.slice la n lc)) := hide (fun W2 h2 => by
    rw [hn]
    refine (spares_any la lc L W2 (hA.opt (h0W.trans ((unhide h2).old.mono h0W.size)) (unhide h2).small.1) (unhide h2).small.2).mono ?_
    rintro e w' ⟨gm, g9, fv, G, rfl, k⟩
    obtain ⟨fa, fc, rfl⟩ := (unhide k).full.shape
    have s3 : S3 W W2 w' (akC 2 da dn dc la n lc k0 k1 ta tn' tc qa qn qc) dn L.length L gm g9 (.slice fa L.length fc) G := ⟨unhide h2, unhide k⟩
    rw [hn] at s3
    exact ⟨gm, g9, fa, fc, G, rfl, hide s3, s3.now.cell 2 _ rfl⟩)
  have CCM : Hid (∀ W2 W3 gm g9 fv G, Hid (S3 W W2 W3 (akC 2 da dn dc la n lc k0 k1 ta tn' tc qa qn qc) dn n L gm g9 fv G) → Calls Tryz.prog 21 #[.slice (some ⟨gm, 0, none⟩) n (n + 1)] W3 fun e w' => ∃ va vc, e = .returned (.tuple #[.slice va ll vc, .int .i64 E]) ∧ Hid (S4 W W2 W3 w' (akC 2 da dn dc la n lc k0 k1 ta tn' tc qa qn qc) dn n L gm g9 fv G l (.slice va ll vc)) ∧ w'.cell? ⟨W.heap.size, 2, none⟩ = some (.slice la n lc)) := hide (fun W2 W3 gm g9 fv G h3 => by
    have tb : Tab W3 := ht.below (h0W.trans ((unhide h3).now.old.mono h0W.size))
    have hargs := (unhide h3).sp.args hn (unhide h3).s2.small.1
    have := hBC.1 W3 gm 0 (n + 1) tb hargs
    rw [← hn] at this
    refine this.mono ?_
    rintro e w' ⟨va, vc, rfl, k⟩
    have s4 : S4 W W2 W3 w' (akC 2 da dn dc la n lc k0 k1 ta tn' tc qa qn qc) dn n L gm g9 fv G l (.slice va l.length vc) := ⟨unhide h3, unhide k⟩
    rw [hll]
    exact ⟨va, vc, rfl, hide s4, s4.now.cell 2 _ rfl⟩)
  have CRF : Hid (∀ W2 W3 W4 gm g9 fv G v, Hid (S4 W W2 W3 W4 (akC 2 da dn dc la n lc k0 k1 ta tn' tc qa qn qc) dn n L gm g9 fv G l v) → Calls Tryz.prog 22 #[.slice la n lc] W4 fun e w' => ∃ ra rc, e = .returned (.tuple #[.slice ra ll rc, .int .i64 E]) ∧ Hid (S5 W W2 W3 W4 w' (akC 2 da dn dc la n lc k0 k1 ta tn' tc qa qn qc) dn n L gm g9 fv G l v ra) ∧ w'.cell? ⟨W.heap.size, 2, none⟩ = some (.slice la n lc)) := hide (fun W2 W3 W4 gm g9 fv G v h4 => by
    have := hBC.2 W4 la lc (hA.opt (h0W.trans ((unhide h4).now.old.mono h0W.size)) (unhide h4).s3.s2.small.1)
    rw [← hn] at this
    refine this.mono ?_
    rintro e w' ⟨ra, rc, rfl, k⟩
    have s5 : S5 W W2 W3 W4 w' (akC 2 da dn dc la n lc k0 k1 ta tn' tc qa qn qc) dn n L gm g9 fv G l v ra := ⟨unhide h4, (unhide k).1, (unhide k).2.1, (unhide k).2.2⟩
    rw [hll]
    exact ⟨ra, rc, rfl, hide s5, s5.now.cell 2 _ rfl⟩)
  have CSA : Hid (∀ W2 W3 W4 W5 gm g9 fv G v ra, Hid (S5 W W2 W3 W4 W5 (akC 2 da dn dc la n lc k0 k1 ta tn' tc qa qn qc) dn n L gm g9 fv G l v ra) → Calls Tryz.prog 23 #[.slice (some ⟨gm, 0, none⟩) (n + 1) (n + 1), fv, .slice la n lc] W5 fun e w' => e = .returned (.bool true) ∧ Hid (Below W.heap.size W w' ∧ Rws w' 5 1 v l.length (byV l) ∧ (∀ g, v.ownBlock = some g → W.heap.size ≤ g) ∧ Bytes w' ra l)) := hide (fun W2 W3 W4 W5 gm g9 fv G v ra h5 => by
    have hb5 := h0W.trans ((unhide h5).now.old.mono h0W.size)
    have sm := (unhide h5).s4.s3.s2.small
    have low := hA.low hb5
    refine (sames_any W2 W5 la lc gm n g9 fv L G hn (unhide h5).spd (hA.opt hb5 sm.1) (fun b off k T e hT => ⟨Nat.lt_of_lt_of_le (low b off k T e hT).1 ?_, fun x c g o h1 h2 h3 => Nat.lt_of_lt_of_le ((low b off k T e hT).2 x c g o h1 h2 h3) ?_⟩) hS sm.1 (by rw [hn]; exact sm.2)).mono ?_
    · exact Nat.le_trans h0W.size (unhide h5).s4.s3.s2.old.size
    · exact Nat.le_trans h0W.size (unhide h5).s4.s3.s2.old.size
    · rintro e w' ⟨rfl, k⟩
      exact ⟨rfl, hide ((unhide h5).after (unhide k))⟩)
  have CEQ : Hid (∀ W6 va vc ra rc, Hid (Below W.heap.size W W6 ∧ Rws W6 5 1 (.slice va ll vc) l.length (byV l) ∧ (∀ g, (Value.slice va ll vc).ownBlock = some g → W.heap.size ≤ g) ∧ Bytes W6 ra l) → Calls Tryz.prog 12 #[.slice va ll vc, .slice ra ll rc] W6 fun e w' => e = .returned (.bool true) ∧ Hid (Td w1 w' pb t m [(.slice va ll vc, l)] [])) := hide (fun W6 va vc ra rc h6 => by
    obtain ⟨b6, r6, o6, y6⟩ := unhide h6
    have hbv := r6.inb'.1
    rw [hll]
    refine (eq_any (c1 := vc) (c2 := rc) (by omega) (by omega) hbv y6).mono ?_
    rintro e w' ⟨rfl, k⟩
    refine ⟨by simp, hide ?_⟩
    have := hT.more (b6.trans (k.below.mono b6.size)) [(.slice va ll vc, l)] (fun z hz => by
      simp at hz
      subst hz
      exact ⟨r6.below k.below, o6⟩) (List.pairwise_singleton _ _) [] (fun x hx => by cases hx)
    rw [hll] at this
    exact this)
  have CTO : Hid (∀ W7 va vc, Hid (Td w1 W7 pb t m [(.slice va ll vc, l)] []) → Calls Tryz.prog 24 #[.pointer (some ⟨pb + 1, 0, none⟩), .slice va ll vc] W7 fun e w' => e = .returned (.tuple #[]) ∧ Hid (Td w1 w' pb (t + 1) (m - ll - 10) [] [])) := hide (fun W7 va vc h7 => (unhide h7).told hll htt (by omega) hm)
  have CLK : Hid (∀ W8, Hid (Td w1 W8 pb (t + 1) (m - ll - 10) [] []) → Calls Tryz.prog 32 #[.pointer (some ⟨pb + 1, 0, none⟩)] W8 fun e w' => e = .returned (.bool true) ∧ Hid (Td w1 w' pb (t + 1) (m - ll - 10) [] [])) := hide (fun W8 h8 => (unhide h8).looked)
  have TD : Hid (∀ w', Hid (Below W.heap.size W w') → Td w1 w' pb (t + 1) m [] []) := hide (fun w' h => (hT.below (unhide h)).later (Nat.le_succ _))
  have hlr : (ll : Int) ≤ 600000 := by omega
  have r1 : (n : Int) ≤ (n : Int) + 1 := by omega
  have r2 : (0 : Int) ≤ (n : Int) := by omega
  clear hT h0W hRW hA hS hBC hn ht hll hlen h01 hp hWB
  go_enter Tryz.func9, Tryz.ntmps9
  go_wp2_with (first
    | (go_at_call 13; refine (unhide CH).mono ?_; rintro e W2 ⟨h, rfl, kb, kh, x0, x2⟩; cases h)
    | (go_at_call 20; refine (unhide CSP W2 (kh (by first | rfl | trivial))).mono ?_; rintro e W3 ⟨gm, g9, fa, fc, G, rfl, k3, x3⟩)
    | (go_at_call 21; refine (unhide CCM _ W3 gm g9 _ G k3).mono ?_; rintro e W4 ⟨va, vc, rfl, k4, x4⟩)
    | (go_at_call 22; refine (unhide CRF _ _ W4 gm g9 _ G _ k4).mono ?_; rintro e W5 ⟨ra, rc, rfl, k5, x5⟩)
    | (go_at_call 23; refine (unhide CSA _ _ _ W5 gm g9 _ G _ _ k5).mono ?_; rintro e W6 ⟨rfl, k6⟩)
    | (go_at_call 12; refine (unhide CEQ W6 va vc ra rc k6).mono ?_; rintro e W7 ⟨rfl, k7⟩)
    | (go_at_call 7; refine (num_any _ _).mono ?_; rintro e W7' ⟨rfl, h7'⟩; subst h7')
    | (go_at_call 24; refine (unhide CTO _ va vc k7).mono ?_; rintro e W8 ⟨rfl, k8⟩)
    | (go_at_call 32; refine (unhide CLK W8 k8).mono ?_; rintro e W9 ⟨rfl, k9⟩))
  all_goals go_ret
  all_goals first | exact ⟨rfl, _, k9, by omega, by omega⟩ | exact ⟨rfl, m, hide (unhide TD _ kb), by omega, Int.le_refl _⟩
end Go.Proofs.YtcnlikojbkegiaaGreatDoor
