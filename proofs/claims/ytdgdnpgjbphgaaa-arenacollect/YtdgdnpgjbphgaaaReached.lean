/- reached. -/
import Derived.Test.YtdgdnpgjbphgaaaBig
namespace Go.Proofs.Ytdgdnpgjbphgaaa
open Go.ChangeShapes Go.WideShapes Go.ChangeAt Go.RowKit
set_option linter.unusedVariables false
set_option maxRecDepth 100000
set_option maxHeartbeats 8000000

def rootsOf (R0 : List Int) (n : Nat) : List Nat := R0.map fun z => (z % (n : Int)).toNat
theorem rootsOf_length (R0 : List Int) (n : Nat) : (rootsOf R0 n).length = R0.length := by simp [rootsOf]
theorem rootsOf_lt (R0 : List Int) (n : Nat) (hn : 0 < n) : ∀ j ∈ rootsOf R0 n, j < n := fun j hj => by
  obtain ⟨z, _, rfl⟩ := List.mem_map.1 hj
  have h1 := Int.emod_lt_of_pos z (show (0 : Int) < (n : Int) by omega)
  have h2 := Int.emod_nonneg z (show (n : Int) ≠ 0 by omega)
  omega
theorem rootsOf_next (R0 : List Int) (n k : Nat) (hk : k < R0.length) : (rootsOf R0 n).take (k + 1) = (rootsOf R0 n).take k ++ [(R0.getD k 0 % (n : Int)).toNat] := by
  have hl : k < (rootsOf R0 n).length := by rw [rootsOf_length]; exact hk
  rw [List.take_add_one, List.getElem?_eq_getElem hl]
  congr 1
  simp [rootsOf, List.getD_eq_getElem?_getD, hk]
theorem icells_append (l m : List Nat) : icells (l ++ m) = icells l ++ icells m := by simp [icells]

theorem own_below {w w' : World} {base : Nat} {v : Value} {l : List Nat} (h : OwnI w base v l) (hb : Below w.heap.size w w') : OwnI w' base v l := by
  refine ⟨h.1, ?_⟩
  rcases h.2 with hn | ⟨g, cap, cur, hv, hbb, hg, rest⟩
  · exact .inl hn
  · exact .inr ⟨g, cap, cur, hv, hbb, by rw [hb.block g (Array.getElem?_eq_some_iff.1 hg).1]; exact hg, rest⟩
theorem Seek.drawn {L : List (Nat × Nat × Nat)} {E : List (List Int)} {R : List Nat} {B gs bnd : Nat} {W2 wr : World} {i c : Nat} {v : Value} {stk : List Nat} {sn : List Bool} (h : Seek L E R B gs bnd W2 wr i c v stk sn) (n : Nat) : Seek L E R B gs bnd W2 (wr.drewN n) i c v stk sn :=
  ⟨h.own, h.sl, h.cells, h.stkL, h.snL, h.roots, h.closed, h.len, ⟨h.bel.os, h.bel.tape, h.bel.output, h.bel.size, h.bel.block⟩, h.size⟩
theorem reached_any (aS aE aR : Option Addr) (nS cS cE cR : Nat) (E : List (List Int)) (R0 : List Int) (bL cL : Nat) (L : List (Nat × Nat × Nat)) (w : World) (hg : Good L) (hpos : 0 < L.length) (hl : L.length ≤ 4000) (hbL : bL < w.heap.size) (hSh : ShapesAt w bL 0 (ints L)) (hE : NumRows w aE E) (hR : Nums w aR R0) (hRl : R0.length + 25 * L.length ≤ 17592187092992) :
    Calls Try.prog 27 #[.agg #[.slice aS nS cS, .slice aE E.length cE, .slice aR R0.length cR], .slice (some ⟨bL, 0, none⟩) L.length cL] w fun e w' => ∃ (gs : Nat) (sn : List Bool), e = .returned (.tuple #[.slice (some ⟨gs, 0, none⟩) L.length L.length, .int .i64 (wsum L sn L.length : Nat)]) ∧ sn.length = L.length ∧ (∀ j, j < L.length → w'.cell? ⟨gs, j, none⟩ = some (.bool (sn.getD j false))) ∧ (∀ j, sn.getD j false = true ↔ Live L E (rootsOf R0 L.length) j) ∧ w.heap.size ≤ gs ∧ gs < w'.heap.size ∧ Below w.heap.size w w' := by
  obtain ⟨i0, hi, hy0, hy1, hy2⟩ := info_parts Try.info3
  obtain ⟨W, hW⟩ : ∃ W, W = w.alloc (.cells #[.slice aS nS cS, .slice aE E.length cE, .slice aR R0.length cR] 78) := ⟨_, rfl⟩
  have hWb : W.heap[w.heap.size]? = some (.cells #[.slice aS nS cS, .slice aE E.length cE, .slice aR R0.length cR] 78 (0, 0)) := by rw [hW]; exact heap_alloc_new w _
  have hWs : W.heap.size = w.heap.size + 1 := by rw [hW]; simp
  have hb0 : Below w.heap.size w W := by rw [hW]; exact (Below.refl w.heap.size w).alloc (Nat.le_refl _) _
  obtain ⟨W2, hW2⟩ : ∃ W2, W2 = W.alloc (.cells (madeCells #[.bool false] L.length) 4) := ⟨_, rfl⟩
  have hW2b : W2.heap[W.heap.size]? = some (.cells (madeCells #[.bool false] L.length) 4 (0, 0)) := by rw [hW2]; exact heap_alloc_new W _
  have hW2s : W2.heap.size = W.heap.size + 1 := by rw [hW2]; simp
  have hb2 : Below W.heap.size W W2 := by rw [hW2]; exact (Below.refl W.heap.size W).alloc (Nat.le_refl _) _
  have m1 := fun w' => run_make_row' (P := Try.prog) 79 4 (.bool false) 1 Try.underlying79 Try.info4 rfl .i64 .i64 L.length (by omega) (by omega) w'
  obtain ⟨gs, hgs⟩ : ∃ gs, gs = W.heap.size := ⟨_, rfl⟩
  have HFA : Hid (∀ w', Below gs W2 w' → (w'.cell? ⟨w.heap.size, 0, none⟩ = some (.slice aS nS cS) ∧ w'.cell? ⟨w.heap.size, 1, none⟩ = some (.slice aE E.length cE) ∧ w'.cell? ⟨w.heap.size, 2, none⟩ = some (.slice aR R0.length cR)) ∧ (∀ j, j < L.length → w'.cell? ⟨bL, j * 3 + 1, none⟩ = some (.int .i64 (refsOf L j : Nat)) ∧ w'.cell? ⟨bL, j * 3 + 2, none⟩ = some (.int .i64 ((L.getD j (0, 0, 0)).2.2 : Nat))) ∧ NumRows w' aE E ∧ Nums w' aR R0 ∧ Below w.heap.size w w') := hide (fun w' h => by
    have hbb : Below w.heap.size w w' := hb0.trans ((hb2.mono (by omega)).trans (h.mono (by omega)))
    have hh := (h.block w.heap.size (by omega)).trans ((hb2.block w.heap.size (by omega)).trans hWb)
    refine ⟨⟨by simp [World.cell?, hh], by simp [World.cell?, hh], by simp [World.cell?, hh]⟩, fun j hj => ?_, hE.below hbb, hR.below hbb, hbb⟩
    obtain ⟨x0, x1, x2⟩ := hSh j (by unfold ints; rw [List.length_map]; exact hj)
    rw [ints_at L j hj] at x1 x2
    rw [Nat.zero_add] at x1 x2
    exact ⟨(hbb.cell (p := ⟨bL, j * 3 + 1, none⟩) hbL).trans x1, (hbb.cell (p := ⟨bL, j * 3 + 2, none⟩) hbL).trans x2⟩)
  have HCS : Hid (∀ w', Below (gs + 1) W2 w' → ∀ j, j < L.length → w'.cell? ⟨gs, j, none⟩ = some (.bool false) ∧ w'.frozen? ⟨gs, j, none⟩ = false) := hide (fun w' h j hj => by
    have hh : w'.heap[gs]? = some (.cells (madeCells #[.bool false] L.length) 4 (0, 0)) := by rw [h.block gs (by omega), hgs]; exact hW2b
    exact ⟨by simp only [World.cell?, hh]; exact made_at (.bool false) L.length j hj, by simp only [World.frozen?, hh]; simp⟩)
  have HWE := hide hW
  have HWE2 := hide hW2
  have HG := hide hg
  have hgsw : gs = w.heap.size + 1 := by omega
  have HGW := hide hgsw
  have hgs1 : w.heap.size < gs := by omega
  have hgs2 : W2.heap.size = gs + 1 := by omega
  clear hW hW2 hWb hW2b hb0 hb2 hSh hE hR hg hgs hgsw hW2s
  go_enter Try.func27, Try.ntmps27
  go_upto_region 1 with fail
  rw [← unhide HWE]
  go_upto_region 2 with fail
  rw [← unhide HWE2, ← unhide HGW]
  clear HWE HWE2 HGW m1 hWs
  go_wp2_with fail
  go_loopw [7, 8] (fun v i wr => ∃ k : Nat, k ≤ R0.length ∧ i = .int .i64 k ∧ OwnI wr (gs + 1) v ((rootsOf R0 L.length).take k) ∧ Below (gs + 1) W2 wr) (fun _ i _ => R0.length - (intOf i).toNat)
  case atStart => exact ⟨0, by omega, rfl, by unfold OwnI; exact World.ownsRow_nil _ _ _ _, Below.refl _ _⟩
  case round =>
    obtain ⟨k, hk, rfl, hown, hbr⟩ := hrel
    obtain ⟨⟨g0, g1, g2⟩, _, _, hnum, _⟩ := unhide HFA wr (hbr.mono (by omega))
    have hsr := hbr.size
    by_cases hlt : k < R0.length
    · rcases hnum with h | ⟨b, off, rfl, hb, hc⟩
      · rw [h] at hlt; simp at hlt
      have ck := hc k hlt
      have hnx := rootsOf_next R0 L.length k hlt
      obtain ⟨q, hq⟩ : ∃ q, q = (R0.getD k 0 % (L.length : Int)).toNat := ⟨_, rfl⟩
      rw [← hq] at hnx
      have HWI := hide (within_any (R0.getD k 0) L.length hpos (by omega) wr)
      rw [← hq] at HWI
      have HNX := hide hnx
      generalize R0.getD k 0 = z at *
      have f1 : decide ((k : Int) < (R0.length : Int)) = true := decide_eq_true (by omega)
      have f1' : decide (k < R0.length) = true := decide_eq_true hlt
      have y0 : (0 : Int) ≤ (k : Int) := by omega
      have y1 : (k : Int) < (R0.length : Int) := by omega
      have hlen : ((rootsOf R0 L.length).take k).length = k := by rw [List.length_take, rootsOf_length]; omega
      have HBR := hide hbr
      clear hc hnx hq hbr
      go_wp2_with fail
      refine (unhide HWI).mono ?_
      rintro e w' ⟨rfl, hw'⟩
      obtain rfl := hw'.symm
      go_wp2_with (at_builtin; refine append_big rfl _ _ rfl (gs + 1) _ _ q rfl (World.ownsRow.alloc hown _) wr.heap.size rfl ?c1 ?c2 ?c3 ?_)
      case c1 => simp
      case c2 => omega
      case c3 => simp; omega
      intro v' w5 hown' hgrow
      have hb5 : Below (gs + 1) wr w5 := by
        have hlt2 := World.ownsRow.lt hown
        exact ((Below.refl (gs + 1) wr).alloc (by omega) _).grown hgrow (by simp; omega) (fun j hj => (hlt2 j hj).1)
      have HEN : Hid (OwnI w5 (gs + 1) v' ((rootsOf R0 L.length).take (k + 1)) ∧ Below (gs + 1) W2 w5) := hide (by
        refine ⟨?_, (unhide HBR).trans hb5⟩
        rw [unhide HNX]
        exact hown')
      clear hown' hgrow hown hb5
      go_wp2_with fail
      go_roundw
      case rel => exact ⟨k + 1, by omega, by go_num, unhide HEN⟩
      case measure => simp [intOf]; omega
    · have f1 : decide ((k : Int) < (R0.length : Int)) = false := decide_eq_false (by omega)
      have f1' : decide (k < R0.length) = false := decide_eq_false hlt
      have hke : k = R0.length := by omega
      subst hke
      have hrl := rootsOf_length R0 L.length
      have hrt := rootsOf_lt R0 L.length hpos
      have htake : (rootsOf R0 L.length).take R0.length = rootsOf R0 L.length := List.take_of_length_le (by omega)
      rw [htake] at hown
      have hsnf : ∀ j, (List.replicate L.length false).getD j false = false := fun j => by
        rw [List.getD_eq_getElem?_getD, List.getElem?_replicate]
        split <;> rfl
      have HSK : Hid (∀ v, OwnI wr (gs + 1) v (rootsOf R0 L.length) → Seek L E (rootsOf R0 L.length) (gs + 1) gs (R0.length + 25 * L.length) W2 wr 0 (refsOf L 0) v (rootsOf R0 L.length) (List.replicate L.length false)) := hide (fun v ho => ⟨ho, by simp, (fun j hj => by rw [hsnf]; exact unhide HCS wr hbr j hj), (fun j hj => ⟨hrt j hj, Live.root hj⟩), (fun j hj => by rw [hsnf] at hj; cases hj), (fun j hj => .inr hj), (fun j k t h1 => by rw [hsnf] at h1; cases h1), by have := outN_le (List.replicate L.length false) L.length; omega, hbr.mono (by omega), by omega⟩)
      have HOW := hide (unhide HSK _ hown)
      have HW0 : Hid (wsum L (List.replicate L.length false) L.length = 0) := hide (by
        have key : ∀ m, wsum L (List.replicate L.length false) m = 0 := fun m => by
          induction m with
          | zero => rfl
          | succ m ih =>
            show wsum L (List.replicate L.length false) m + _ = 0
            rw [ih, hsnf, if_neg (by decide)]
        exact key _)
      clear hown hbr htake hrl hrt hsnf HSK hnum HCS
      go_wp2_with fail
      go_loopw [7, 9] (fun v nn wq => ∃ (stk : List Nat) (sn : List Bool), Seek L E (rootsOf R0 L.length) (gs + 1) gs (R0.length + 25 * L.length) W2 wq 0 (refsOf L 0) v stk sn ∧ nn = .int .i64 (wsum L sn L.length : Nat)) (fun v _ wq => 25 * outN (seenAt wq gs L.length) L.length + lenOf v)
      case atStart => exact ⟨_, _, unhide HOW, by rw [unhide HW0]; rfl⟩
      case round =>
        obtain ⟨stk, sn, hsk, rfl⟩ := hrel
        rename World => wq
        have hmes := seenAt_is (n := L.length) (fun j hj => (hsk.cells j hj).1)
        obtain ⟨⟨g0, g1, g2⟩, hfl, hrows, _, hbw⟩ := unhide HFA wq hsk.bel
        rcases List.eq_nil_or_concat stk with rfl | ⟨s0, x, rfl⟩
        · have HEN : Hid (sn.length = L.length ∧ (∀ j, j < L.length → wq.cell? ⟨gs, j, none⟩ = some (.bool (sn.getD j false))) ∧ (∀ j, sn.getD j false = true ↔ Live L E (rootsOf R0 L.length) j) ∧ w.heap.size ≤ gs ∧ gs < wq.heap.size ∧ Below w.heap.size w wq) := hide ⟨hsk.sl, fun j hj => (hsk.cells j hj).1, hsk.done, by omega, by have := hsk.size; omega, hbw⟩
          obtain ⟨a, cp, rfl, _⟩ := own_shape hsk.own
          clear hsk hmes hfl hrows hbw
          go_wp2
          go_ret2
          exact ⟨gs, sn, rfl, unhide HEN⟩
        · rw [List.concat_eq_append] at hsk
          obtain ⟨g, cap, rfl, hgB, hgl, hck, hcap, hcm, hown0⟩ := own_cut hsk.own
          obtain ⟨hxl, hxv⟩ := hsk.stkL x (by simp)
          obtain ⟨hcx, hfx⟩ := hsk.cells x hxl
          obtain ⟨cr, cw⟩ := hfl x hxl
          have hgx := unhide HG x hxl
          have hrf : refsOf L x ≤ 24 := hgx.2.2.1
          have hrw : (L.getD x (0, 0, 0)).2.2 ≤ 24 := hgx.2.2.2
          have hws := wsum_bound (unhide HG) sn L.length (Nat.le_refl _)
          have f2 : decide ((0 : Int) < ((s0.length + 1 : Nat) : Int)) = true := decide_eq_true (by omega)
          have f2' : decide (0 < s0.length + 1) = true := decide_eq_true (by omega)
          have y0 : (0 : Int) ≤ (x : Int) := by omega
          have y1 : (x : Int) < (L.length : Int) := by omega
          have e1 : ((s0.length + 1 : Nat) : Int) - 1 = (s0.length : Int) := by omega
          have HMS := hide hmes
          cases hsx : sn.getD x false with
          | true =>
            rw [hsx] at hcx
            have HEN := hide (hsk.pop hsx hown0)
            clear hsk hmes hfl hrows hbw hown0 hgx
            go_wp2_with fail
            go_roundw
            case rel => exact ⟨s0, sn, unhide HEN, rfl⟩
            case measure => simp [lenOf]
          | false =>
            rw [hsx] at hcx
            have hmk := hsk.mark hsx hown0 (by omega) hrf (by omega)
            have hadd := wsum_add L sn x (by rw [hsk.sl]; exact hxl) hsx L.length hxl
            have hsub := outN_sub sn x (by rw [hsk.sl]; exact hxl) hsx L.length hxl
            have hsnx : (sn.set x true).getD x false = true := by rw [getD_setB _ _ _ (by rw [hsk.sl]; exact hxl), if_pos rfl]
            have HADD := hide hadd
            have HSUB := hide hsub
            have HMK : Hid (∀ n, Seek L E (rootsOf R0 L.length) (gs + 1) gs (R0.length + 25 * L.length) W2 ((wq.setCell ⟨gs, x, none⟩ (.bool true)).drewN n) x 0 (.slice (some ⟨g, 0, none⟩) s0.length cap) s0 (sn.set x true)) := hide (fun n => hmk.drawn n)
            have hbs : gs ≠ bL := by omega
            have cr2 : (wq.setCell ⟨gs, x, none⟩ (.bool true)).cell? ⟨bL, x * 3 + 1, none⟩ = some (.int .i64 (refsOf L x : Nat)) := (World.cell?_setCell_other _ _ _ _ (fun e' => hbs (by injection e' with e1 e2))).trans cr
            have cw2 : (wq.setCell ⟨gs, x, none⟩ (.bool true)).cell? ⟨bL, x * 3 + 2, none⟩ = some (.int .i64 ((L.getD x (0, 0, 0)).2.2 : Nat)) := (World.cell?_setCell_other _ _ _ _ (fun e' => hbs (by injection e' with e1 e2))).trans cw
            have HWD : Hid (wd (L.getD x (0, 0, 0)) = 1 + refsOf L x + (L.getD x (0, 0, 0)).2.2) := hide rfl
            generalize hsr' : (L.getD x (0, 0, 0)).2.2 = sr at *
            clear hsk hmes hfl hrows hbw hown0 hgx hmk hadd hsub hsr'
            go_wp2_with fail
            go_quiet (fail)
            have HK8 := hide (unhide HMK nq)
            clear HMK cr cw cr2 cw2 hcx hfx hck g0 g1 g2
            generalize (wq.setCell ⟨gs, x, none⟩ (.bool true)).drewN nq = w8 at *
            go_wp2_with fail
            go_loopw [7, 11] (fun v i wz => ∃ (c : Nat) (stk : List Nat), c ≤ refsOf L x ∧ i = .int .i64 c ∧ stk.length ≤ s0.length + c ∧ Seek L E (rootsOf R0 L.length) (gs + 1) gs (R0.length + 25 * L.length) W2 wz x c v stk (sn.set x true)) (fun _ i _ => refsOf L x - (intOf i).toNat)
            case atStart => exact ⟨0, s0, by omega, rfl, by omega, unhide HK8⟩
            case round =>
              obtain ⟨c, stk, hc, rfl, hstl, hsz⟩ := hrel
              rename World => wz
              obtain ⟨⟨g0, g1, g2⟩, hfl, hrows, _, hbw⟩ := unhide HFA wz hsz.bel
              have cr := (hfl x hxl).1
              by_cases hcr : c < refsOf L x
              · have f3 : decide ((c : Int) < (refsOf L x : Int)) = true := decide_eq_true (by omega)
                have f3' : decide (c < refsOf L x) = true := decide_eq_true hcr
                have HED := hide (edge_any (.slice aS nS cS) (.slice aR R0.length cR) aE cE E L.length x c wz (by omega) hrows)
                have HSZ := hide hsz
                cases hen : edgeN E L.length x c with
                | none =>
                  rw [hen] at HED
                  clear hsz hfl hrows hbw
                  go_wp2_with fail
                  refine (unhide HED).mono ?_
                  rintro e w9 ⟨rfl, hb9⟩
                  have HEN := hide ((unhide HSZ).pass hen hb9 (by omega))
                  have f4 : decide ((0 : Int) ≤ edgeV none) = false := by decide
                  clear hb9
                  go_wp2_with fail
                  go_roundw
                  case rel => exact ⟨c + 1, stk, by omega, by go_num, by omega, unhide HEN⟩
                  case measure => simp [intOf]; omega
                | some t =>
                  rw [hen] at HED
                  have hlen := hsz.len
                  have hszz := hsz.size
                  clear hsz hfl hrows hbw
                  go_wp2_with fail
                  refine (unhide HED).mono ?_
                  rintro e w9 ⟨rfl, hb9⟩
                  have hown9 := own_below (unhide HSZ).own hb9
                  have hs9 := hb9.size
                  have HB9 := hide hb9
                  have f4 : decide ((0 : Int) ≤ (t : Int)) = true := decide_eq_true (by omega)
                  rw [show edgeV (some t) = (t : Int) from rfl]
                  clear hb9
                  go_wp2_with (at_builtin; refine append_big rfl _ _ rfl (gs + 1) _ _ t rfl (World.ownsRow.alloc hown9 _) w9.heap.size rfl ?c1 ?c2 ?c3 ?_)
                  case c1 => simp
                  case c2 => omega
                  case c3 => simp; omega
                  intro v' w5 hown' hgrow
                  have hb5 : Below (gs + 1) w9 w5 := by
                    have hlt2 := World.ownsRow.lt hown9
                    exact ((Below.refl (gs + 1) w9).alloc (by omega) _).grown hgrow (by simp; omega) (fun j hj => (hlt2 j hj).1)
                  have HEN := hide ((unhide HSZ).push (v' := v') (w' := w5) hcr hsnx hen hown' (((unhide HB9).mono hszz).trans hb5) (by omega))
                  clear hown' hgrow hown9 hb5 HB9
                  go_wp2_with fail
                  go_roundw
                  case rel => exact ⟨c + 1, _, by omega, by go_num, by simp; omega, unhide HEN⟩
                  case measure => simp [intOf]; omega
              · have f3 : decide ((c : Int) < (refsOf L x : Int)) = false := decide_eq_false (by omega)
                have f3' : decide (c < refsOf L x) = false := decide_eq_false hcr
                have hce : c = refsOf L x := by omega
                subst hce
                have hms2 := seenAt_is (n := L.length) (fun j hj => (hsz.cells j hj).1)
                have HM2 := hide hms2
                have HEN := hide (hsz.turn (i' := 0))
                obtain ⟨a9, c9, rfl, _⟩ := own_shape hsz.own
                clear hsz hfl hrows hbw hms2
                go_wp2_with fail
                go_roundw
                case rel => exact ⟨stk, sn.set x true, unhide HEN, by rw [unhide HADD, unhide HWD]; go_num⟩
                case measure =>
                  have h1 := unhide HM2
                  have h2 := unhide HMS
                  have h3 := unhide HSUB
                  simp only [lenOf]
                  rw [h1, h2]
                  omega
end Go.Proofs.Ytdgdnpgjbphgaaa
