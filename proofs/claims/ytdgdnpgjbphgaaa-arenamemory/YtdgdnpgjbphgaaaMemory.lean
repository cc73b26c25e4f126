/- ArenaMemory: the walk. -/
import Derived.Test.YtdgdnpgjbphgaaaAgree
namespace Go.Proofs.Ytdgdnpgjbphgaaa
open Go.ChangeShapes Go.WideShapes Go.ChangeAt Go.RowKit
set_option linter.unusedVariables false
set_option maxRecDepth 100000
set_option maxHeartbeats 8000000
theorem memory_law (aS : Option Addr) (cS : Nat) (aW : Option Addr) (cW : Nat) (S : List (Int × Int × Int)) (W : List (Int × Int × Nat)) (w : World) (hS : Shapes w aS S) (hW : Writes w aW W) (hSl : S.length ≤ 140737488355328) (hWl : W.length ≤ 140737488355328) :
    Calls Try.prog 3 #[.agg #[.slice aS S.length cS, .slice aW W.length cW]] w fun e w' => e = .returned (.bool true) ∧ Below w.heap.size w w' := by
  obtain ⟨i0, hi, hy0, hy1, hy2⟩ := info_parts Try.info28
  have hS1 : Shapes (w.alloc (.cells #[.slice aS S.length cS, .slice aW W.length cW] 25)) aS S := by
    have hb := (Below.refl w.heap.size w).alloc (Nat.le_refl _) (.cells #[.slice aS S.length cS, .slice aW W.length cW] 25)
    rcases hS with h | ⟨b, off, e, hlt, h⟩
    · exact .inl h
    · exact .inr ⟨b, off, e, by simp; omega, fun i hi => ⟨(hb.cell (p := ⟨b, off + i * 3, none⟩) hlt).trans (h i hi).1, (hb.cell (p := ⟨b, off + i * 3 + 1, none⟩) hlt).trans (h i hi).2.1, (hb.cell (p := ⟨b, off + i * 3 + 2, none⟩) hlt).trans (h i hi).2.2⟩⟩
  have HT := hide (take_any aS cS _ S hSl hS1)
  have hB0 := (Below.refl w.heap.size w).alloc (Nat.le_refl _) (.cells #[.slice aS S.length cS, .slice aW W.length cW] 25)
  have HB0 := hide hB0
  have HW := hide hW
  have hgood := hide (taken_good S (3, 1, 2) ⟨by decide, by decide, by decide, by decide⟩)
  have hints := hide (taken_ints S (3, 1, 2))
  have hlen := taken_length S (3, 1, 2)
  have HSL : Hid (((S.take 2000).map fitL).length = min 2000 S.length) := hide (by simp)
  generalize taken S (3, 1, 2) = L at *
  generalize (S.take 2000).map fitL = T at *
  have hTl : T.length + 1 = L.length := by have := unhide HSL; omega
  have hL4 : L.length ≤ 2001 := by omega
  have hLp : 1 ≤ L.length := by omega
  have hT4 : T.length ≤ 2000 := by omega
  have HTL := hide hTl
  clear hS hS1 hW hB0 HSL hTl hlen
  go_enter Try.func3, Try.ntmps3
  go_wp2_with fail
  refine (unhide HT).mono ?_
  rintro e w1 ⟨v, rfl, hown, hb1⟩
  have f1 : w1.cell? ⟨w.heap.size, 1, none⟩ = some (.slice aW W.length cW) := by
    rw [hb1.cell (p := ⟨w.heap.size, 1, none⟩) (by simp)]
    exact World.cell?_alloc_new ..
  have s1 : (w.alloc (.cells #[.slice aS S.length cS, .slice aW W.length cW] 25)).heap.size = w.heap.size + 1 := by simp
  rw [s1] at hown hb1
  have hbl1 : Below w.heap.size w w1 := (unhide HB0).trans (hb1.mono (by omega))
  have hsz1 : w.heap.size + 1 ≤ w1.heap.size := by have := hb1.size; rw [s1] at this; exact this
  unfold OwnS at hown
  clear hb1 s1
  go_wp2_with (at_builtin; refine wpList_append_own _ rfl _ _ 22 rfl _ 28 i0 (.agg #[.int .i64 0, .int .i64 0, .int .i64 0]) 3 24 Try.underlying22 hi hy0 hy1 hy2 rfl (by decide) _ _ _ rfl (hown.alloc _) ⟨w1.heap.size, 0, none⟩ 1 1 [.int .i64 3, .int .i64 1, .int .i64 2] rfl rfl ?c1 ?c2 ?c3 ?c4 ?c5 ?_)
  case c1 =>
    intro j u hj
    match j, hj with
    | 0, hj => simp at hj; subst hj; simp [Addr.add]
    | 1, hj => simp at hj; subst hj; simp [Addr.add]
    | 2, hj => simp at hj; subst hj; simp [Addr.add]
  case c2 => intro u hu; simp at hu; rcases hu with rfl | rfl | rfl <;> rfl
  case c3 => simp [maxLen]; omega
  case c4 => omega
  case c5 => simp; omega
  intro v' w5 hown' hgrow _
  have hown5 : OwnS w5 (w.heap.size + 1) v' (ints L) := by
    unfold OwnS
    rw [unhide hints, List.length_append, List.length_singleton, scells_append]
    exact hown'
  have hTl := unhide HTL
  have hbl5 : Below w.heap.size w w5 := by
    have hlt2 := hown.lt
    exact (hbl1.alloc hbl1.size _).grown hgrow (by simp; omega) (fun j hj => by have := (hlt2 j hj).1; omega)
  have hil : (ints L).length = L.length := by simp [ints]
  obtain ⟨g, cap, rfl, hg1, hg2, hsh⟩ := hown5.shape (by omega)
  rw [hil] at hown' ⊢
  have HF := hide (fill_any g 0 cap w5 L (unhide hgood) hLp (by omega) hg2 hsh)
  have HSH := hide hsh
  have HB5 := hide hbl5
  have hsz5 := hbl5.size
  clear hown' hown5 hgrow hown hbl1 hbl5 f1 hsh hil HT hTl HTL
  go_wp2_with fail
  refine (unhide HF).mono ?_
  rintro e w6 ⟨p, bw, bh, v2, ws0, hs, rfl, hA, hwl, hLd, ⟨base, hownA, hp1, hp2, hp3⟩, hp4, hp5, hp6, hb6⟩
  obtain ⟨ga, capa, rfl, hga1, hga2, hat⟩ := places_shape hownA (by omega)
  have HA := hide hA
  have HLD := hide hLd
  have HAT := hide hat
  have HB6 := hide ((unhide HB5).trans (hb6.mono hsz5))
  have hwl0 := hide hwl
  have HSH6 : Hid (ShapesAt w6 g 0 (ints L)) := hide (fun i hi => by
    obtain ⟨x0, x1, x2⟩ := unhide HSH i hi
    exact ⟨(hb6.cell (p := ⟨g, 0 + i * 3, none⟩) hg2).trans x0, (hb6.cell (p := ⟨g, 0 + i * 3 + 1, none⟩) hg2).trans x1, (hb6.cell (p := ⟨g, 0 + i * 3 + 2, none⟩) hg2).trans x2⟩)
  have hsz6 := hb6.size
  have lw6 := hA.lw
  clear hA hLd hat hownA hb6 hwl HF HSH HB5
  obtain ⟨j0, hj, hz0, hz1, hz2⟩ := info_parts Try.info34
  go_wp2_with fail
  go_loopw [8, 9] (fun v i wr => ∃ (k : Nat) (bs : List Nat), k ≤ L.length ∧ bs.length = k ∧ i = .int .i64 k ∧ HeldTo wr w6.heap.size L v bs ∧ Below w6.heap.size w6 wr) (fun _ i _ => L.length - (intOf i).toNat)
  case atStart => exact ⟨0, [], by omega, rfl, rfl, ⟨World.ownsRow_nil _ _ _ _, fun j hj => by simp at hj, fun j hj => by simp at hj, fun i j _ hj => by simp at hj, fun j f hj => by simp at hj⟩, Below.refl _ _⟩
  case round =>
    obtain ⟨k, bs, hk, hbs, rfl, hheld, hb6r⟩ := hrel
    by_cases hlt : k < L.length
    · obtain ⟨c0, c1, c2⟩ := unhide HSH6 k (by unfold ints; rw [List.length_map]; exact hlt)
      rw [ints_at L k hlt] at c1 c2
      have hgs : g < w6.heap.size := Nat.lt_of_lt_of_le hg2 hsz6
      have d1 := (hb6r.cell (p := ⟨g, 0 + k * 3 + 1, none⟩) hgs).trans c1
      have d2 := (hb6r.cell (p := ⟨g, 0 + k * 3 + 2, none⟩) hgs).trans c2
      rw [Nat.zero_add] at d1 d2
      obtain ⟨_, _, q3, q4⟩ := unhide hgood k hlt
      have hfs : fsz L bs.length = (L.getD k (0, 0, 0)).2.1 + (L.getD k (0, 0, 0)).2.2 := by rw [hbs]; rfl
      have HNX := hide (fun w1 g cap => HeldTo.next (w1 := w1) (g := g) (cap := cap) hheld hb6r.size)
      have hown := hheld.row
      rw [hfs] at HNX
      rw [hbs] at hown HNX
      generalize (L.getD k (0, 0, 0)).2.1 = r at *
      generalize (L.getD k (0, 0, 0)).2.2 = t at *
      have hrow := hheld.row.lt
      have m1 := fun w' => run_make_row' (P := Try.prog) 34 36 (.int .u64 0) 8 Try.underlying34 Try.info36 rfl .i64 .i64 (r + t) (by omega) (by omega) w'
      rw [show ((r + t : Nat) : Int) = IntKind.i64.wrap ((r : Int) + (t : Int)) from by rw [IntKind.wrap_i64]; omega] at m1
      obtain ⟨X, hX⟩ : ∃ X, X = ((wr.alloc (.cells (madeCells #[.int .u64 0] (r + t)) 36)).alloc (.cells #[.slice (some ⟨wr.heap.size, 0, none⟩) (r + t) (r + t)] 34)).drew := ⟨_, rfl⟩
      have HXO : Hid (X.ownsRow w6.heap.size 34 1 _ k (hcells L bs)) := hide (by rw [hX]; exact World.ownsRow.drew ((hown.alloc _).alloc _))
      have HXN : Hid (∀ j u, ([.slice (some ⟨wr.heap.size, 0, none⟩) (r + t) (r + t)] : List Value)[j]? = some u → X.cell? ((⟨wr.heap.size + 1, 0, none⟩ : Addr).add j) = some u) := hide (by
        rw [hX]
        have h := heap_alloc_new (wr.alloc (.cells (madeCells #[.int .u64 0] (r + t)) 36)) (.cells #[.slice (some ⟨wr.heap.size, 0, none⟩) (r + t) (r + t)] 34)
        have s1 : (wr.alloc (.cells (madeCells #[.int .u64 0] (r + t)) 36)).heap.size = wr.heap.size + 1 := by simp
        rw [s1] at h
        exact World.news_of_block h)
      have HXS : Hid (w6.heap.size ≤ X.heap.size ∧ X.heap.size = wr.heap.size + 2) := hide (by rw [hX]; have := hb6r.size; simp; omega)
      have HXE := hide hX
      rw [← hX] at HNX
      have HB6R := hide hb6r
      have z0 : (0 : Int) ≤ (k : Int) := by omega
      have z1 : (k : Int) < (L.length : Int) := by omega
      have HC : Hid (∀ w', Below w6.heap.size wr w' → w'.cell? ⟨g, k * 3 + 1, none⟩ = some (.int .i64 (r : Int)) ∧ w'.cell? ⟨g, k * 3 + 2, none⟩ = some (.int .i64 (t : Int))) := hide (fun w' hb => ⟨(hb.cell (p := ⟨g, k * 3 + 1, none⟩) hgs).trans d1, (hb.cell (p := ⟨g, k * 3 + 2, none⟩) hgs).trans d2⟩)
      have HSZ := hide hb6r.size
      clear c0 c1 c2 hheld hb6r hown hfs hX hrow
      go_wp2_with fail
      go_region_held3 (fun w' => w'.cell? ⟨g, k * 3 + 1, none⟩ = some (.int .i64 (r : Int)) ∧ w'.cell? ⟨g, k * 3 + 2, none⟩ = some (.int .i64 (t : Int)))
        (first | exact ⟨d1, d2⟩ | assumption | exact unhide HC _ (by assumption) | (refine unhide HC _ ?_; exact ((Below.refl _ _).alloc (unhide HSZ) _).drew) | (refine unhide HC _ ?_; exact (((Below.refl _ _).alloc (unhide HSZ) _).alloc (by have := unhide HSZ; simp; omega) _).drew))
        (first | (rw [← unhide HXE]; refine step_append_lies _ rfl _ _ 33 rfl w6.heap.size 34 j0 (.slice none 0 0) 1 24 Try.underlying33 hj hz0 hz1 hz2 rfl (by decide) _ k (hcells L bs) rfl (unhide HXO) ⟨wr.heap.size + 1, 0, none⟩ 1 1 [.slice (some ⟨wr.heap.size, 0, none⟩) (r + t) (r + t)] rfl rfl (unhide HXN) (fun u hu => by simp at hu; subst hu; rfl) (by decide) (by simp [maxLen]; omega) (by omega) (unhide HXS).1 (wr.heap.size + 2) (unhide HXS).2 ?_; intro g2 cap2 w7 hown7 hgrow7 hat7 hlt7; have h77 := hide (unhide HNX w7 g2 cap2 hown7 hgrow7 hat7).1; have hb77 := (unhide HNX w7 g2 cap2 hown7 hgrow7 hat7).2))
      have HB77 := hide ((unhide HB6R).trans hb77)
      clear hown7 hgrow7 hb77
      go_wp2_with fail
      go_roundw
      case rel => exact ⟨k + 1, bs ++ [wr.heap.size], hlt, by rw [List.length_append, List.length_singleton, hbs], by go_num, unhide h77, unhide HB77⟩
      case measure => simp [intOf]; omega
    · have hke : k = L.length := by omega
      have hbl : bs.length = L.length := by omega
      obtain ⟨gh, caph, rfl, hgh1, hgh2, hghn, hghc⟩ := hheld.shape (by omega)
      have HNE := hide hheld.ne
      have HAG := hide (hheld.cells)
      have HAG : Hid (Agree wr L bs ws0) := hide (Agree.start hheld hbl (unhide HLD))
      have HLOW := hide hheld.low
      have HA10 := hide ((unhide HA).below hb6r)
      have HAT10 : Hid (∀ j, j < L.length → wr.cell? ⟨ga, j, none⟩ = some (.int .i64 (place L j : Nat))) := hide (fun j hj => (hb6r.cell (p := ⟨ga, j, none⟩) hga2).trans (unhide HAT j hj))
      have hgs : g < w6.heap.size := Nat.lt_of_lt_of_le hg2 hsz6
      have HSH10 : Hid (ShapesAt wr g 0 (ints L)) := hide (fun i hi => by
        obtain ⟨x0, x1, x2⟩ := unhide HSH6 i hi
        exact ⟨(hb6r.cell (p := ⟨g, 0 + i * 3, none⟩) hgs).trans x0, (hb6r.cell (p := ⟨g, 0 + i * 3 + 1, none⟩) hgs).trans x1, (hb6r.cell (p := ⟨g, 0 + i * 3 + 2, none⟩) hgs).trans x2⟩)
      have HB10 := hide ((unhide HB6).trans (hb6r.mono (unhide HB6).size))
      have HGHC := hide hghc
      have HGHN := hide hghn
      have hsz10 := hb6r.size
      have hsz06 := (unhide HB6).size
      have hbw6 := lw6
      have hlp6 := (unhide HA).lp
      have hlh6 := (unhide HA).lh
      have f0 : decide (k < L.length) = false := decide_eq_false (by omega)
      rw [hbl]
      clear hheld hb6r hghc hghn HA HAT HSH6 HB6 HB0
      subst hke
      go_upto_block 2 with fail
      go_cut [10] (fun _ wc => ∃ ws, Ar wc p bw bh ws hs (place L L.length) ∧ ws.length = place L L.length ∧ Kept L ws hs ∧ Agree wc L bs ws ∧ But (bw :: bs) wr wc)
      case first =>
        go_wp2_with fail
        go_loopw [10] (fun i wq => ∃ (k : Nat) (ws : List Nat), k ≤ W.length ∧ i = .int .i64 k ∧ Ar wq p bw bh ws hs (place L L.length) ∧ ws.length = place L L.length ∧ Kept L ws hs ∧ Agree wq L bs ws ∧ But (bw :: bs) wr wq) (fun i _ => W.length - (intOf i).toNat)
        case atStart => exact ⟨0, ws0, by omega, rfl, unhide HA10, unhide hwl0, (unhide HLD).kept, unhide HAG, But.refl _ _⟩
        case round =>
          obtain ⟨k, ws, hk, rfl, hAr, hwl, hkept, hag, hbut⟩ := hrel
          rename World => wq
          by_cases hlt : k < W.length ∧ k < 2000
          · obtain ⟨hkl, hk20⟩ := hlt
            have hcells : ∃ b off, aW = some ⟨b, off, none⟩ ∧ b < w.heap.size ∧ WritesAt w b off W := by
              rcases unhide HW with h | h
              · rw [h] at hkl; simp at hkl
              · exact h
            obtain ⟨b, off, rfl, hb, hWA⟩ := hcells
            obtain ⟨c0, c1, c2, c3⟩ := hWA k hkl
            have hbsl : ∀ x ∈ bs, w6.heap.size ≤ x ∧ x < wr.heap.size := fun x hx => by
              obtain ⟨j, hj, rfl⟩ := mem_getD hx
              exact unhide HLOW j hj
            have hbw : Below w.heap.size w wq := hbut.below (unhide HB10) (fun j hj => by
              rcases List.mem_cons.1 hj with h | h
              · omega
              · have := hbsl j h; omega) (unhide HB10).size
            have d0 := (hbw.cell (p := ⟨b, off + k * 3, none⟩) hb).trans c0
            have d1 := (hbw.cell (p := ⟨b, off + k * 3 + 1, none⟩) hb).trans c1
            have d2 := (hbw.cell (p := ⟨b, off + k * 3 + 2, none⟩) hb).trans c2
            generalize (W.getD k (0, 0, 0)).1 = wo at *
            generalize (W.getD k (0, 0, 0)).2.1 = wf at *
            generalize (W.getD k (0, 0, 0)).2.2 = wv at *
            obtain ⟨o, ho⟩ : ∃ o : Nat, o = (wo % (L.length : Int)).toNat := ⟨_, rfl⟩
            have hol : o < L.length := by
              have h1 := Int.emod_nonneg wo (show (L.length : Int) ≠ 0 by omega)
              have h2 := Int.emod_lt_of_pos wo (show (0 : Int) < (L.length : Int) by omega)
              omega
            have HWI := hide (within_any wo L.length hLp (by omega) wq)
            rw [← ho] at HWI
            have hgan : ga ∉ bw :: bs := fun h => by
              rcases List.mem_cons.1 h with h | h
              · omega
              · have := hbsl ga h; omega
            have hghn : gh ∉ bw :: bs := fun h => by
              rcases List.mem_cons.1 h with h | h
              · omega
              · obtain ⟨j, hj, e⟩ := mem_getD h
                exact unhide HGHN j hj e.symm
            have ha0 : wq.cell? ⟨ga, o, none⟩ = some (.int .i64 (place L o : Nat)) := (hbut.cell (q := ⟨ga, o, none⟩) (Nat.lt_of_lt_of_le hga2 hsz10) hgan).trans (unhide HAT10 o hol)
            have hh0 : wq.cell? ⟨gh, o, none⟩ = some (.slice (some ⟨bs.getD o 0, 0, none⟩) (fsz L o) (fsz L o)) := (hbut.cell (q := ⟨gh, o, none⟩) hgh2 hghn).trans (unhide HGHC o (by omega))
            have hbo := unhide HLOW o (by omega)
            have hfz : fsz L o = (L.getD o (0, 0, 0)).2.1 + (L.getD o (0, 0, 0)).2.2 := rfl
            have hf46 : fsz L o ≤ 46 := by have := unhide hgood o hol; omega
            have z0 : (0 : Int) ≤ (k : Int) := by omega
            have z1 : (k : Int) < (W.length : Int) := by omega
            have z2 : decide ((k : Int) < 2000) = true := decide_eq_true (by omega)
            have z3 : (0 : Int) ≤ (o : Int) := by omega
            have z4 : (o : Int) < (L.length : Int) := by omega
            by_cases hm0 : fsz L o = 0
            · have HH : Hid (Ar wq p bw bh ws hs (place L L.length) ∧ ws.length = place L L.length ∧ Kept L ws hs ∧ Agree wq L bs ws ∧ But (bw :: bs) wr wq) := hide ⟨hAr, hwl, hkept, hag, hbut⟩
              rw [hm0] at hh0
              clear c0 c1 c2 c3 hWA hbw hAr hwl hkept hag hbut ho d1 d2 ha0
              go_wp2_with (go_at_call 11; refine (unhide HWI).mono ?_; rintro e w9 ⟨rfl, hw9⟩; obtain rfl := hw9.symm)
              go_roundw
              case rel => exact ⟨k + 1, ws, by omega, by go_num, unhide HH⟩
              case measure => simp [intOf]; omega
            · obtain ⟨f, hf⟩ : ∃ f : Nat, f = (wf % ((fsz L o : Nat) : Int)).toNat := ⟨_, rfl⟩
              have hfl : f < fsz L o := by
                have h1 := Int.emod_nonneg wf (show ((fsz L o : Nat) : Int) ≠ 0 by omega)
                have h2 := Int.emod_lt_of_pos wf (show (0 : Int) < ((fsz L o : Nat) : Int) by omega)
                omega
              have HWF := hide (within_any wf (fsz L o) (by omega) (by omega) wq)
              rw [← hf] at HWF
              have hobj := hkept.obj (unhide hgood) o hol
              have HSET := hide (set_yes (place L o) f wv wq.drew c3 (hAr.drawn 1) (hkept.all (unhide hgood)) (by rw [hobj]) (by rw [hobj]; exact hfl))
              have hpl := place_lt L hol
              have hwd : wd (L.getD o (0, 0, 0)) = 1 + (L.getD o (0, 0, 0)).2.1 + (L.getD o (0, 0, 0)).2.2 := rfl
              have HKP := hide (hkept.put o f wv hol (by omega) (by omega))
              have hnb : ∀ j, j < L.length → bs.getD j 0 ∉ [bw] ∧ bs.getD j 0 < wq.drew.heap.size := fun j hj => by
                have := unhide HLOW j (by omega)
                have h2 := hbut.size
                exact ⟨fun h => by have := List.mem_singleton.1 h; omega, Nat.lt_of_lt_of_le this.2 h2⟩
              have HAG7 : Hid (∀ w', But [bw] wq.drew w' → Agree w' L bs ws) := hide (fun w' hw => Agree.but (w := wq.drew) hag hw hnb)
              have HBUT : Hid (∀ w', But [bw] wq.drew w' → But (bw :: bs) wr w') := hide (fun w' hw => (show But (bw :: bs) wr wq.drew from ⟨hbut.os, hbut.tape, hbut.output, hbut.size, hbut.block⟩).trans (hw.wide (by simp)))
              have HK : Hid (∀ w', But [bw] wq.drew w' → w'.cell? ⟨ga, o, none⟩ = some (.int .i64 (place L o : Nat)) ∧ w'.cell? ⟨b, off + k * 3 + 2, none⟩ = some (.int .u64 (wv : Int)) ∧ w'.cell? ⟨gh, o, none⟩ = some (.slice (some ⟨bs.getD o 0, 0, none⟩) (fsz L o) (fsz L o))) := hide (fun w' hw => by
                have l1 : ga < wq.drew.heap.size := Nat.lt_of_lt_of_le (Nat.lt_of_lt_of_le hga2 hsz10) hbut.size
                have l2 : b < wq.drew.heap.size := Nat.lt_of_lt_of_le hb hbw.size
                have l3 : gh < wq.drew.heap.size := Nat.lt_of_lt_of_le hgh2 hbut.size
                have n1 : ga ∉ [bw] := by simp; omega
                have n2 : b ∉ [bw] := by simp; omega
                have n3 : gh ∉ [bw] := by simp; omega
                exact ⟨(hw.cell (q := ⟨ga, o, none⟩) l1 n1).trans ha0, (hw.cell (q := ⟨b, off + k * 3 + 2, none⟩) l2 n2).trans d2, (hw.cell (q := ⟨gh, o, none⟩) l3 n3).trans hh0⟩)
              have e0 : (((fsz L o : Nat) : Int) == 0) = false := by rw [beq_eq_false_iff_ne]; omega
              have e1 : (fsz L o == 0) = false := by rw [beq_eq_false_iff_ne]; exact hm0
              have z5 : (0 : Int) ≤ (f : Int) := by omega
              have z6 : (f : Int) < ((fsz L o : Nat) : Int) := by omega
              have hghb : gh ≠ bs.getD o 0 := unhide HGHN o (by omega)
              have hbb : b ≠ bs.getD o 0 := by omega
              have HPL := hide (show place L L.length ≤ ws.length by omega)
              have HWL : Hid ((ws.set (place L o + 1 + f) wv).length = place L L.length) := hide (by rw [List.length_set]; exact hwl)
              have HFO := hide hfl
              obtain ⟨m, hmm⟩ : ∃ m, m = fsz L o := ⟨_, rfl⟩
              obtain ⟨q, hq⟩ : ∃ q, q = place L o := ⟨_, rfl⟩
              obtain ⟨bo, hbo'⟩ : ∃ bo, bo = bs.getD o 0 := ⟨_, rfl⟩
              have HMM := hide hmm
              have HQQ := hide hq
              have HBO := hide hbo'
              rw [← hmm, ← hbo'] at hh0
              rw [← hq] at ha0
              rw [← hmm, ← hq, ← hbo'] at HK
              rw [← hmm] at HWF e0 e1 z6
              rw [← hq] at HSET
              rw [← hbo'] at hghb hbb
              clear c0 c1 c2 c3 hWA hbw hAr hwl hkept hag hbut ho hf hobj hnb hpl hwd hfz hmm hq hbo' hbo hm0
              go_wp2_with fail
              refine (unhide HWI).mono ?_
              rintro e w9 ⟨rfl, hw9⟩
              obtain rfl := hw9.symm
              go_wp2_with fail
              refine (unhide HWF).mono ?_
              rintro e w9 ⟨rfl, hw9⟩
              obtain rfl := hw9.symm
              go_wp2_with fail
              go_region_held3 (fun w' => w'.cell? ⟨ga, o, none⟩ = some (.int .i64 (q : Nat)) ∧ w'.cell? ⟨b, off + k * 3 + 2, none⟩ = some (.int .u64 (wv : Int)))
                (first | exact ⟨ha0, d2⟩ | assumption | exact ⟨(unhide HK _ (by assumption)).1, (unhide HK _ (by assumption)).2.1⟩)
                (first | (go_at_call 12; refine (unhide HSET).mono ?_; rintro e w7 ⟨rfl, hA7, hB7⟩))
              obtain ⟨x0, x1, x2⟩ := unhide HK w7 hB7
              have hag7 := unhide HAG7 w7 hB7
              have hbut7 := unhide HBUT w7 hB7
              obtain ⟨y1, y2⟩ := hag7 o f hol (unhide HFO)
              rw [← unhide HBO] at y1 y2
              have HA7 := hide hA7
              have HB7 := hide hbut7
              have HG7 := hide hag7
              generalize ws.getD (place L o + 1 + f) 0 = old at *
              clear hA7 hag7 hbut7 hB7 HK HAG7 HBUT HSET HWI HWF ha0 hh0 d0 d1 d2
              go_wp2_with (go_at_call 13; refine (num_any _ _).mono ?_; rintro e w' ⟨rfl, hw'⟩; obtain rfl := hw'.symm)
              go_region_held3 (fun w' => w'.cell? ⟨gh, o, none⟩ = some (.slice (some ⟨bo, 0, none⟩) m m) ∧ w'.cell? ⟨b, off + k * 3 + 2, none⟩ = some (.int .u64 (wv : Int)))
                (first | exact ⟨x2, x1⟩ | assumption | exact ⟨(World.cell?_setCell_other _ _ _ _ (fun e' => hghb (by injection e' with e1 e2; exact e1.symm))).trans x2, (World.cell?_setCell_other _ _ _ _ (fun e' => hbb (by injection e' with e1 e2; exact e1.symm))).trans x1⟩)
                (fail)
              go_wp2_with fail
              go_roundw
              case rel =>
                have hbo2 := unhide HLOW o (by omega)
                rw [← unhide HBO] at hbo2
                have hB8 : But [bo] w7 (w7.setCell ⟨bo, f, none⟩ (.int .u64 (wv : Int))) := (But.refl _ _).set ⟨bo, f, none⟩ (by simp) _
                have hA8 := ((unhide HA7).but hB8 (by simp; omega) (by simp; omega) (by simp; omega)).drawn 1
                rw [unhide HQQ] at hA8
                have hG8 := (unhide HG7).put hbl (unhide HNE) (unhide HPL) o f wv hol (unhide HFO)
                rw [← unhide HBO] at hG8
                have hB9 := (unhide HB7).set ⟨bo, f, none⟩ (by rw [unhide HBO]; exact List.mem_cons_of_mem _ (getD_mem (by omega))) (.int .u64 (wv : Int))
                exact ⟨k + 1, _, by omega, by go_num, hA8, unhide HWL, unhide HKP, hG8, ⟨hB9.os, hB9.tape, hB9.output, hB9.size, hB9.block⟩⟩
              case measure => simp [intOf]; omega
          · have hsub : (k < W.length ∧ 2000 ≤ k) ∨ W.length ≤ k := by omega
            have HH : Hid (∃ ws, Ar wq p bw bh ws hs (place L L.length) ∧ ws.length = place L L.length ∧ Kept L ws hs ∧ Agree wq L bs ws ∧ But (bw :: bs) wr wq) := hide ⟨ws, hAr, hwl, hkept, hag, hbut⟩
            clear hAr hwl hkept hbut hag hlt
            rcases hsub with ⟨h1, h2⟩ | h1
            · have f1 : decide ((k : Int) < (W.length : Int)) = true := decide_eq_true (by omega)
              have f2 : decide ((k : Int) < 2000) = false := decide_eq_false (by omega)
              go_wp2_with fail
              go_meet
              exact unhide HH
            · have f1 : decide ((k : Int) < (W.length : Int)) = false := decide_eq_false (by omega)
              go_wp2_with fail
              go_meet
              exact unhide HH
      case rest =>
        obtain ⟨ws, hAr, hwl, hkept, hag, hbut⟩ := hcut
        rename World => w11
        have hbsl : ∀ x ∈ bs, w6.heap.size ≤ x ∧ x < wr.heap.size := fun x hx => by
          obtain ⟨j, hj, rfl⟩ := mem_getD hx
          exact unhide HLOW j hj
        have hgn : g ∉ bw :: bs := fun h => by
          rcases List.mem_cons.1 h with h | h
          · omega
          · have := hbsl g h; omega
        have hgan : ga ∉ bw :: bs := fun h => by
          rcases List.mem_cons.1 h with h | h
          · omega
          · have := hbsl ga h; omega
        have hghn : gh ∉ bw :: bs := fun h => by
          rcases List.mem_cons.1 h with h | h
          · omega
          · obtain ⟨j, hj, e⟩ := mem_getD h
            exact unhide HGHN j hj e.symm
        have hgl : g < wr.heap.size := Nat.lt_of_lt_of_le hgs hsz10
        have hgal : ga < wr.heap.size := Nat.lt_of_lt_of_le hga2 hsz10
        have hbu := hbut.size
        have HS11 : Hid (∀ j w', j < L.length → Below w11.heap.size w11 w' → w'.cell? ⟨g, j * 3, none⟩ = some (.int .i64 ((L.getD j (0, 0, 0)).1 : Nat)) ∧ w'.cell? ⟨g, j * 3 + 1, none⟩ = some (.int .i64 ((L.getD j (0, 0, 0)).2.1 : Nat)) ∧ w'.cell? ⟨g, j * 3 + 2, none⟩ = some (.int .i64 ((L.getD j (0, 0, 0)).2.2 : Nat)) ∧ w'.cell? ⟨ga, j, none⟩ = some (.int .i64 (place L j : Nat)) ∧ w'.cell? ⟨gh, j, none⟩ = some (.slice (some ⟨bs.getD j 0, 0, none⟩) (fsz L j) (fsz L j))) := hide (fun j w' hj hb => by
          obtain ⟨x0, x1, x2⟩ := unhide HSH10 j (by unfold ints; rw [List.length_map]; exact hj)
          rw [ints_at L j hj] at x0 x1 x2
          rw [Nat.zero_add] at x0 x1 x2
          have cc : ∀ (q : Addr), q.block < wr.heap.size → q.block ∉ bw :: bs → w'.cell? q = wr.cell? q := fun q hq hn => (hb.cell (p := q) (Nat.lt_of_lt_of_le hq hbu)).trans (hbut.cell hq hn)
          exact ⟨(cc ⟨g, j * 3, none⟩ hgl hgn).trans x0, (cc ⟨g, j * 3 + 1, none⟩ hgl hgn).trans x1, (cc ⟨g, j * 3 + 2, none⟩ hgl hgn).trans x2, (cc ⟨ga, j, none⟩ hgal hgan).trans (unhide HAT10 j hj), (cc ⟨gh, j, none⟩ hgh2 hghn).trans (unhide HGHC j (by omega))⟩)
        have HV11 : Hid (∀ j f w', j < L.length → f < fsz L j → Below w11.heap.size w11 w' → w'.cell? ⟨bs.getD j 0, f, none⟩ = some (.int .u64 (ws.getD (place L j + 1 + f) 0 : Nat))) := hide (fun j f w' hj hf hb => by
          have h1 := unhide HLOW j (by omega)
          exact (hb.cell (p := ⟨bs.getD j 0, f, none⟩) (Nat.lt_of_lt_of_le h1.2 hbu)).trans (hag j f hj hf).1)
        have HOB : Hid (∀ j w', j < L.length → Below w11.heap.size w11 w' → Calls Try.prog 14 #[.pointer (some ⟨p, 0, none⟩), .int .i64 (place L j : Nat)] w' fun e w'' => e = .returned (.tuple #[.int .i64 ((L.getD j (0, 0, 0)).1 : Nat), .int .i64 ((L.getD j (0, 0, 0)).2.1 : Nat), .int .i64 ((L.getD j (0, 0, 0)).2.2 : Nat), .int .i64 0]) ∧ Below w'.heap.size w' w'') := hide (fun j w' hj hb => by
          have h := object_any (place L j : Nat) w' (hAr.below hb) (hkept.all (unhide hgood))
          rw [hkept.obj (unhide hgood) j hj] at h
          exact h)
        have HGT : Hid (∀ j f w', j < L.length → f < fsz L j → Below w11.heap.size w11 w' → Calls Try.prog 15 #[.pointer (some ⟨p, 0, none⟩), .int .i64 (place L j : Nat), .int .i64 (f : Nat)] w' fun e w'' => e = .returned (.tuple #[.int .u64 (ws.getD (place L j + 1 + f) 0 : Nat), .int .i64 0]) ∧ Below w'.heap.size w' w'') := hide (fun j f w' hj hf hb => by
          have ho := hkept.obj (unhide hgood) j hj
          exact get_yes (place L j) f w' (hAr.below hb) (hkept.all (unhide hgood)) (by rw [ho]) (by rw [ho]; exact hf))
        have HB11 := hide (hbut.below (unhide HB10) (fun j hj => by
          rcases List.mem_cons.1 hj with h | h
          · omega
          · have := hbsl j h; omega) (unhide HB10).size)
        clear hAr hwl hkept hag hbut HA10 HAT10 HSH10 HB10 HGHC HGHN HLOW HAG HLD HNE HW hbsl hgn hgan hghn hwl0
        go_wp2_with fail
        go_loopw [15] (fun i wz => ∃ k : Nat, k ≤ L.length ∧ i = .int .i64 k ∧ Below w11.heap.size w11 wz) (fun i _ => L.length - (intOf i).toNat)
        case atStart => exact ⟨0, by omega, rfl, Below.refl _ _⟩
        case round =>
          obtain ⟨k, hk, rfl, hbz⟩ := hrel
          rename World => wz
          by_cases hlt : k < L.length
          · have HO := hide (unhide HOB k wz hlt hbz)
            obtain ⟨q0, q1, q2, q3, q4⟩ := unhide HS11 k wz hlt hbz
            have HSS := hide (fun w' hb => unhide HS11 k w' hlt hb)
            have hfz : fsz L k = (L.getD k (0, 0, 0)).2.1 + (L.getD k (0, 0, 0)).2.2 := rfl
            have hm46 : fsz L k ≤ 46 := by have := unhide hgood k hlt; omega
            have HGG := hide (fun f w' hf hb => unhide HGT k f w' hlt hf hb)
            have HVV := hide (fun f w' hf hb => unhide HV11 k f w' hlt hf hb)
            have z0 : (0 : Int) ≤ (k : Int) := by omega
            have z1 : (k : Int) < (L.length : Int) := by omega
            generalize (L.getD k (0, 0, 0)).1 = kd at *
            generalize (L.getD k (0, 0, 0)).2.1 = r at *
            generalize (L.getD k (0, 0, 0)).2.2 = t at *
            generalize fsz L k = m at *
            generalize bs.getD k 0 = bo at *
            generalize place L k = pk at *
            have HBZ := hide hbz
            clear hbz hfz
            go_wp2_with fail
            refine (unhide HO).mono ?_
            rintro e w12 ⟨rfl, hb12⟩
            have hbz12 := (unhide HBZ).trans (hb12.mono (unhide HBZ).size)
            obtain ⟨r0, r1, r2, r3, r4⟩ := unhide HSS w12 hbz12
            have HBZ12 := hide hbz12
            clear hbz12 hb12 HBZ HO q0 q1 q2 q3 q4
            go_wp2_with (go_at_call 13; refine (num_any _ _).mono ?_; rintro e w' ⟨rfl, hw'⟩; obtain rfl := hw'.symm)
            clear r0 r1 r2 r3 r4
            go_loopw [20] (fun i wy => ∃ n : Nat, n ≤ m ∧ i = .int .i64 n ∧ Below w11.heap.size w11 wy) (fun i _ => m - (intOf i).toNat)
            case atStart => exact ⟨0, by omega, rfl, unhide HBZ12⟩
            case round =>
              obtain ⟨n, hn, rfl, hby⟩ := hrel
              rename World => wy
              obtain ⟨r0, r1, r2, r3, r4⟩ := unhide HSS wy hby
              by_cases hnm : n < m
              · have HG1 := hide (unhide HGG n wy hnm hby)
                have HV1 := hide (fun w' hb => unhide HVV n w' hnm hb)
                generalize ws.getD (pk + 1 + n) 0 = y at *
                have f1 : decide (n < m) = true := decide_eq_true hnm
                have z2 : (0 : Int) ≤ (n : Int) := by omega
                have z3 : (n : Int) < (m : Int) := by omega
                have HBY := hide hby
                clear hby r0 r1 r2
                go_wp2_with fail
                refine (unhide HG1).mono ?_
                rintro e w13 ⟨rfl, hb13⟩
                have hby13 := (unhide HBY).trans (hb13.mono (unhide HBY).size)
                obtain ⟨_, _, _, _, s4⟩ := unhide HSS w13 hby13
                have s5 := unhide HV1 w13 hby13
                have HBY13 := hide hby13
                clear hby13 hb13 HBY r3 r4
                go_wp2_with (go_at_call 13; refine (num_any _ _).mono ?_; rintro e w' ⟨rfl, hw'⟩; obtain rfl := hw'.symm)
                go_roundw
                case rel => exact ⟨n + 1, by omega, by go_num, unhide HBY13⟩
                case measure => simp [intOf]; omega
              · have f1 : decide (n < m) = false := decide_eq_false hnm
                have HBY := hide hby
                clear hby r0 r1 r2 r3
                go_wp2_with fail
                go_roundw
                case rel => exact ⟨k + 1, by omega, by go_num, unhide HBY⟩
                case measure => simp [intOf]; omega
          · have f0 : decide (k < L.length) = false := decide_eq_false (by omega)
            have f1 : decide ((k : Int) < (L.length : Int)) = false := decide_eq_false (by omega)
            have HBZ := hide hbz
            clear hbz
            go_wp2
            go_ret
            exact ⟨rfl, (unhide HB11).trans ((unhide HBZ).mono (unhide HB11).size)⟩
end Go.Proofs.Ytdgdnpgjbphgaaa
