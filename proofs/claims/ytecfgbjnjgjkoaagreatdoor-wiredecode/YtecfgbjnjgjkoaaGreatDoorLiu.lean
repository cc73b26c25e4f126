/- Line of the program, whole. -/
import Derived.Test.YtecfgbjnjgjkoaaGreatDoorLit
import Derived.WalkMore
namespace Go.Proofs.YtecfgbjnjgjkoaaGreatDoor
open Go.ChangeShapes Go.WideShapes Go.ChangeAt Go.RowKit
set_option linter.unusedVariables false
set_option linter.unusedSimpArgs false
set_option maxRecDepth 20000
set_option maxHeartbeats 4000000

theorem Tryz.info25s : (Tryz.prog.info? 25).map (fun i => (i.zero, i.size, i.bytes)) = some (some (.slice none 0 0), 1, 24) := by kernel_rfl
/-- a word that grows beside the words that stand -/
structure WdAt (w W1 W : World) (B : Nat) (v : Value) (Z : List (Value × List Nat)) (x : Value) (n : Nat) (l : List Nat) : Prop where
  ws : WsAt w W1 B v Z
  gr : Gro W1 W W1.heap.size x n l
theorem WdAt.now {w W1 W : World} {B n : Nat} {v x : Value} {Z : List (Value × List Nat)} {l : List Nat} (h : WdAt w W1 W B v Z x n l) : WsAt w W B v Z := h.ws.below h.gr.bel
theorem WdAt.below {w W1 W W' : World} {B n : Nat} {v x : Value} {Z : List (Value × List Nat)} {l : List Nat} (h : WdAt w W1 W B v Z x n l) (hb : Below W.heap.size W W') : WdAt w W1 W' B v Z x n l := ⟨h.ws, h.gr.below hb⟩
theorem WdAt.push {w W1 W w' : World} {B n : Nat} {v v' x : Value} {Z : List (Value × List Nat)} {l : List Nat} (h : WdAt w W1 W B v Z x n l)
    (hR : Rws w' 25 1 v' (Z.length + 1) (fun k => if k < Z.length * 1 then (Z.getD k (undef, [])).1 else [x].getD (k - Z.length * 1) undef)) (hG : Gw W w' v v') : WsAt w w' B v' (Z ++ [(x, l)]) :=
  h.now.push (by have := h.gr.row; rw [h.gr.len] at this; exact this) (fun g hg => Nat.le_trans h.ws.sz (h.gr.own g hg)) (fun z hz g hg e => by
    have h1 := h.gr.own g e
    have h2 := (h.ws.ent z hz).1.lt g hg
    omega) hR hG
theorem Gw.alloc' {W w' : World} {v v' : Value} {o : Obj} (h : Gw (W.alloc o) w' v v') : Gw W w' v v' :=
  ⟨h.os, h.tape, h.output, by have := h.size; simp at this; omega, fun k hk hv => (h.oth k (by simp; omega) hv).trans (Below.heap_alloc _ _ _ hk), fun g hg => (h.own g hg).imp id (fun q => by simp at q; omega)⟩
theorem mapL {α : Type} (Z : List (Value × List Nat)) (x : Value) (l : List Nat) : (Z ++ [(x, l)]).map (·.2) = Z.map (·.2) ++ [l] := by simp
theorem line_any (w : World) (a : Option Addr) (cp tn : Nat) (T : List Nat) (hn : tn = T.length) (hB : Bytes w a T) (hcp : tn ≤ cp) (hcl : cp ≤ 1073741824) :
    Calls Tryz.prog 15 #[.slice a tn cp] w fun e w' => ∃ (va : Option Addr) (n vc : Nat) (E : Int), e = .returned (.tuple #[.slice va n vc, .int .i64 E]) ∧ Hid (E = (Larder8.lineL T).2 ∧ ∃ Z, WsAt w w' w.heap.size (.slice va n vc) Z ∧ n = Z.length ∧ Z.map (·.2) = (Larder8.lineL T).1) := by
  rcases Nat.lt_or_ge 1024 tn with hbig | hsm
  · have E : Larder8.lineL T = ([], 83) := by unfold Larder8.lineL; rw [if_pos (by omega)]
    have f0 : decide ((1024 : Int) < (tn : Int)) = true := decide_eq_true (by omega)
    have f1 : decide (1024 < tn) = true := decide_eq_true hbig
    have HE : Hid ((83 : Int) = (Larder8.lineL T).2 ∧ ∃ Z, WsAt w w w.heap.size (.slice none 0 0) Z ∧ 0 = Z.length ∧ Z.map (·.2) = (Larder8.lineL T).1) := hide (by rw [E]; exact ⟨rfl, [], WsAt.start w _ (Nat.le_refl _), rfl, rfl⟩)
    clear hB hn E
    go_enter Tryz.func15, Tryz.ntmps15
    go_wp2
    go_step3
    go_wp2
    try rw [Exit.noGoto_ret]
    go_ret2
    exact ⟨none, 0, 0, 83, rfl, HE⟩
  · have f0 : decide ((1024 : Int) < (tn : Int)) = false := decide_eq_false (by omega)
    have f1 : decide (1024 < tn) = false := decide_eq_false (by omega)
    have EL : Hid (∀ R, Larder8.lineW T = R → Larder8.lineL T = (match R with | none => ([], 84) | some w => if 128 < w.length then ([], 83) else (w, 0))) := hide (fun R h => by unfold Larder8.lineL; rw [if_neg (by omega), h]; cases R <;> rfl)
    have HTl := hide hn
    have CS : Hid (∀ W, Below w.heap.size w W → ∀ i : Nat, i ≤ tn → Calls Tryz.prog 40 #[.slice a tn cp, .int .i64 (i : Nat)] W fun e w' => ∃ j : Nat, e = .returned (.int .i64 (j : Nat)) ∧ i ≤ j ∧ j ≤ tn ∧ Hid ((∀ k, i ≤ k → k < j → Larder8.blankL (T.getD k 0) = true) ∧ (j < tn → Larder8.blankL (T.getD j 0) = false)) ∧ W = w') := hide (fun W hW i hi => (skip_any W a cp tn i T hn (hB.below hW) hi (by omega)).mono (fun e w' ⟨j, h1, h2, h3, h4, h5⟩ => ⟨j, h1, h2, h3, h4, h5.symm⟩))
    have CS0 : Hid (Calls Tryz.prog 40 #[.slice a tn cp, .int .i64 0] w fun e w' => ∃ j : Nat, e = .returned (.int .i64 (j : Nat)) ∧ j ≤ tn ∧ Hid ((∀ k, 0 ≤ k → k < j → Larder8.blankL (T.getD k 0) = true) ∧ (j < tn → Larder8.blankL (T.getD j 0) = false)) ∧ w = w') := hide ((unhide CS w (Below.refl _ _) 0 (Nat.zero_le _)).mono (fun e w' ⟨j, h1, h2, h3, h4, h5⟩ => ⟨j, h1, h3, h4, h5⟩))
    have CB : Hid (∀ W (c : Nat), Calls Tryz.prog 41 #[.int .u8 (c : Nat)] W fun e w' => e = .returned (.bool (Larder8.blankL c)) ∧ W = w') := hide (fun W c => (blank_any W c).mono (fun e w' h => ⟨h.1, h.2.symm⟩))
    have HB := hide hB
    have AL : Hid (∀ W : World, ∀ o, Below W.heap.size W (W.alloc o)) := hide (fun W o => (Below.refl _ _).alloc (Nat.le_refl _) _)
    obtain ⟨i5, hi5, hz5, hs5, hb5⟩ := info_partsS Tryz.info5s
    obtain ⟨i25, hi25, hz25, hs25, hb25⟩ := info_partsS Tryz.info25s
    clear hn hB
    go_enter Tryz.func15, Tryz.ntmps15
    go_wp2
    go_step3
    go_wp2
    go_step3
    go_wp2_with (go_at_call 40; refine (unhide CS0).mono ?_; rintro e w0 ⟨j0, rfl, hj0, hs0, h0⟩; subst h0)
    go_loopw [4, 5] (fun v iv wr => ∃ (i m vc : Nat) (va : Option Addr) (Z : List (Value × List Nat)), v = .slice va m vc ∧ iv = .int .i64 (i : Nat) ∧ i ≤ tn ∧ m ≤ i ∧ Hid (WsAt w wr w.heap.size (.slice va m vc) Z ∧ m = Z.length ∧ Larder8.lineW T = (Larder8.lineW (T.drop i)).map (Z.map (·.2) ++ ·) ∧ (i < tn → Larder8.blankL (T.getD i 0) = false))) (fun _ iv _ => tn - (intOf iv).toNat)
    case atStart => exact ⟨j0, 0, 0, none, [], rfl, rfl, hj0, Nat.zero_le _, hide ⟨WsAt.start w _ (Nat.le_refl _), rfl, by
      have := line_skip (i := 0) (j := j0) (T := T) (Nat.zero_le _) (by have := unhide HTl; omega) (unhide hs0).1
      simp only [List.drop_zero] at this
      rw [← this]
      simp, (unhide hs0).2⟩⟩
    case round =>
      obtain ⟨i, m, vc, va, Z, rfl, rfl, hi, hmi, hS⟩ := hrel
      rename World => wr
      rcases Nat.lt_or_ge i tn with hlt | hge
      · obtain ⟨hS1, hm, hS2, hS3⟩ := unhide hS
        subst hm
        have HNB := hide (hS3 hlt)
        have HS2 := hide hS2
        have HS1 := hide hS1
        clear hS hS1 hS2 hS3
        obtain ⟨b, off, rfl, hb, hcell⟩ : ∃ b off, a = some ⟨b, off, none⟩ ∧ b < w.heap.size ∧ ∀ k, k < T.length → w.cell? ⟨b, off + k, none⟩ = some (.int .u8 (T.getD k 0 : Nat)) := by
          rcases unhide HB with h | h
          · have := unhide HTl; rw [h] at this; simp at this; omega
          · exact h
        have HC : Hid (∀ W, Below w.heap.size w W → ∀ k, k < tn → W.cell? ⟨b, off + k, none⟩ = some (.int .u8 (T.getD k 0 : Nat))) := hide (fun W hW k hk => by
          rw [hW.cell hb]
          exact hcell k (by have := unhide HTl; omega))
        clear hcell
        have f3 : decide ((i : Int) < (tn : Int)) = true := decide_eq_true (by omega)
        have FIN : Hid (∀ (x : Value) (l : List Nat) (k j : Nat), Larder8.firstL (T.drop i) = some (l, T.drop k) → k ≤ j → j ≤ tn → (∀ q, k ≤ q → q < j → Larder8.blankL (T.getD q 0) = true) → Larder8.lineW T = (Larder8.lineW (T.drop j)).map ((Z ++ [(x, l)]).map (·.2) ++ ·)) := hide (fun x l k j h1 h2 h3 h4 => by
          have hT := unhide HTl
          rw [unhide HS2, line_word (by omega) (unhide HNB) h1, line_skip h2 (by omega) h4, Option.map_map]
          congr 1
          funext y
          simp)
        have BAD : Hid (Larder8.firstL (T.drop i) = none → Larder8.lineL T = ([], 84)) := hide (fun h => by
          have hT := unhide HTl
          exact unhide EL none (by rw [unhide HS2, line_bad (by omega) (unhide HNB) h]; rfl))
        go_wp2_with fail
        go_loopw [4, 5, 6] (fun v4 iv xv wz => ∃ (k n xc : Nat) (xa : Option Addr) (l : List Nat), v4 = .slice va Z.length vc ∧ iv = .int .i64 (k : Nat) ∧ xv = .slice xa n xc ∧ i ≤ k ∧ k ≤ tn ∧ n ≤ k ∧ Hid (WdAt w wr wz w.heap.size (.slice va Z.length vc) Z (.slice xa n xc) n l) ∧ Hid (Larder8.firstL (T.drop i) = (Larder8.firstL (T.drop k)).map (fun x => (l ++ x.1, x.2)))) (fun _ iv _ _ => tn - (intOf iv).toNat)
        case atStart => exact ⟨i, 0, 0, none, [], rfl, rfl, rfl, Nat.le_refl _, by omega, Nat.zero_le _, hide ⟨unhide HS1, Gro.start wr _ (Nat.le_refl _)⟩, hide (by simp)⟩
        case round =>
          obtain ⟨k, n, xc, xa, l, rfl, rfl, rfl, hik, hk, hnk, WD, HF⟩ := hrel
          rename World => wz
          rcases Nat.lt_or_ge k tn with hlk | hgk
          · have f4 : decide ((k : Int) < (tn : Int)) = true := decide_eq_true (by omega)
            have g1 : (0 : Int) ≤ (k : Int) := by omega
            have g2 : (k : Int) < (tn : Int) := by omega
            have ck := unhide HC wz (unhide WD).now.bel k hlk
            obtain ⟨c, hc⟩ : ∃ c, c = T.getD k 0 := ⟨_, rfl⟩
            have HCC := hide hc
            rw [← hc] at ck
            clear hc
            cases hbl : Larder8.blankL c with
            | true =>
              have CBc := unhide CB wz c
              rw [hbl] at CBc
              have hne : i ≠ k := fun e => by
                have h1 := unhide HNB
                rw [e, ← unhide HCC, hbl] at h1
                cases h1
              have HF2 : Hid (Larder8.firstL (T.drop i) = some (l, T.drop k)) := hide (by
                have hT := unhide HTl
                rw [unhide HF, drop_at' (by omega), ← unhide HCC, first_blank c _ hbl]
                simp)
              have HCB := hide CBc
              clear CBc
              go_wp2_with (first
                | (go_at_call 41; refine (unhide HCB).mono ?_; rintro e w5 ⟨rfl, h5⟩; subst h5)
                | (at_builtin; refine append_rws rfl _ _ 36 rfl 25 i25 (.slice none 0 0) 1 24 Tryz.underlying36 hi25 hz25 hs25 hb25 rfl 25 (.slice va Z.length vc) Z.length _ rfl (((unhide WD).below (unhide AL _ _)).now.row) (.inl rfl) wz.heap.size 1 rfl [.slice xa n xc] (by decide) rfl (made_cells wz [_] 25) (by simp [Value.oneCell']) (by omega) (by omega) ?_; intro v1 w1 h1 g1; have HZ := hide (((unhide WD).below (unhide AL _ _)).push h1 g1.gw); obtain ⟨a1, c1, rfl⟩ := h1.shape; clear h1 g1)
                | (go_at_call 40; refine (unhide CS _ (unhide HZ).bel k hk).mono ?_; rintro e w6 ⟨j, rfl, hj1, hj2, hj3, h6⟩; subst h6))
              go_roundw
              case rel => exact ⟨j, Z.length + 1, c1, a1, Z ++ [(.slice xa n xc, l)], rfl, rfl, hj2, by omega, hide ⟨unhide HZ, by simp, unhide FIN _ l k j (unhide HF2) hj1 hj2 (unhide hj3).1, (unhide hj3).2⟩⟩
              case measure => simp [intOf]; omega
            | false =>
              have CBc := unhide CB wz c
              rw [hbl] at CBc
              have HCB := hide CBc
              clear CBc
              by_cases hq : c = 34
              · subst hq
                have CQ : Hid (Calls Tryz.prog 42 #[.slice (some ⟨b, off + k, none⟩) (tn - k) (cp - k)] wz fun e w' => ∃ (sa : Option Addr) (sn sc kk : Nat), e = .returned (.tuple #[.slice sa sn sc, .int .i64 (kk : Nat)]) ∧ kk ≤ tn - k ∧ (kk = 0 → Hid (Larder8.quotedP 34 (T.drop (k + 1)) = none ∧ Below wz.heap.size wz w')) ∧ (0 < kk → Hid (∃ s, Larder8.quotedP 34 (T.drop (k + 1)) = some (s, T.drop (k + kk)) ∧ Gro wz w' wz.heap.size (.slice sa sn sc) sn s))) := hide (by
                  have hT := unhide HTl
                  have hBk := (((unhide HB).below (unhide WD).now.bel)).drop (i := k)
                  have ed : T.drop k = 34 :: T.drop (k + 1) := by rw [drop_at' (by omega), ← unhide HCC]
                  rw [ed] at hBk
                  refine (quoted_any wz b (off + k) (cp - k) (tn - k) 34 (T.drop (k + 1)) (by decide) (by simp only [List.length_drop]; omega) (by omega) (by omega) hBk).mono ?_
                  rintro e w' ⟨sa, sn, sc, kk, h1, h2, h3, h4⟩
                  refine ⟨sa, sn, sc, kk, h1, h2, h3, fun h => hide ?_⟩
                  obtain ⟨s, h5, h6⟩ := unhide (h4 h)
                  rw [← ed, List.drop_drop] at h5
                  exact ⟨s, h5, h6⟩)
                have hne : (cp = k) = False := eq_false (by omega)
                go_wp2_with (first
                  | (go_at_call 41; refine (unhide HCB).mono ?_; rintro e w5 ⟨rfl, h5⟩; subst h5))
                refine (unhide CQ).mono ?_
                rintro e w5 ⟨sa, sn, sc, kk, rfl, hkk, hz0, hp0⟩
                rcases Nat.eq_zero_or_pos kk with h0 | h0
                · subst h0
                  have HE : Hid ((84 : Int) = (Larder8.lineL T).2 ∧ ∃ Z, WsAt w w5 w.heap.size (.slice none 0 0) Z ∧ 0 = Z.length ∧ Z.map (·.2) = (Larder8.lineL T).1) := hide (by
                    have hT := unhide HTl
                    have h1 := unhide (hz0 rfl)
                    rw [unhide BAD (by rw [unhide HF, first_open (by omega) (unhide HCC) (by decide) h1.1]; rfl)]
                    have h2 := (unhide WD).now.below h1.2
                    exact ⟨rfl, [], ⟨h2.bel, h2.sz, .inl ⟨rfl, rfl⟩, fun g hg => by simp [Value.ownBlock] at hg, fun z hz => (by cases hz), List.Pairwise.nil⟩, rfl, rfl⟩)
                  clear hz0 hp0
                  go_wp2
                  try rw [Exit.noGoto_ret]
                  go_ret2
                  exact ⟨none, 0, 0, 84, rfl, HE⟩
                · obtain ⟨sl, hq1, hGS⟩ := unhide (hp0 h0)
                  have HQ1 := hide hq1
                  have HGS := hide hGS
                  obtain rfl : sn = sl.length := hGS.len
                  have hsl : sl.length ≤ 1024 := by
                    have h9 := quoted_say _ _ _ (Nat.le_refl _) _ hq1
                    have hT := unhide HTl
                    simp only [List.length_drop] at h9
                    omega
                  have WD5 := hide ((unhide WD).below hGS.bel)
                  have d0 : ((kk : Int) == 0) = false := by rw [beq_eq_false_iff_ne]; omega
                  have d0' : (kk == 0) = false := by rw [beq_eq_false_iff_ne]; omega
                  clear hz0 hp0 hq1 hGS
                  rcases Nat.lt_or_ge (k + kk) tn with hl2 | hl2
                  · have f6 : decide ((k : Int) + (kk : Int) < (tn : Int)) = true := decide_eq_true (by omega)
                    have g3 : (0 : Int) ≤ (k : Int) + (kk : Int) := by omega
                    have g4 : (k : Int) + (kk : Int) < (tn : Int) := by omega
                    have ck2 := unhide HC w5 (unhide WD5).now.bel (k + kk) hl2
                    obtain ⟨d, hd⟩ : ∃ d, d = T.getD (k + kk) 0 := ⟨_, rfl⟩
                    have HD := hide hd
                    rw [← hd] at ck2
                    clear hd
                    cases hbd : Larder8.blankL d with
                    | true =>
                      have HCD := hide (unhide CB w5 d)
                      rw [hbd] at HCD
                      have HF2 : Hid (Larder8.firstL (T.drop i) = some (l ++ sl, T.drop (k + kk))) := hide (by
                        have hT := unhide HTl
                        rw [unhide HF, first_shut (by omega) (unhide HCC) (by decide) (unhide HQ1) (.inr (by rw [← unhide HD]; exact hbd))]
                        rfl)
                      go_wp2_with (first
                        | (go_at_call 41; refine (unhide HCD).mono ?_; rintro e w7 ⟨rfl, h7⟩; subst h7)
                        | (at_builtin; refine append_bytes rfl _ _ 25 rfl i5 Tryz.underlying25 hi5 hz5 hs5 hb5 (.slice xa n xc) n (byV l) rfl (unhide WD5).gr.row sa sc sl (by rfl) (unhide HGS).row.inb'.1 (by omega) ?_; intro v2 w2 h2 g2; have WD2 : Hid (WdAt w wr w2 w.heap.size (.slice va Z.length vc) Z v2 (n + sl.length) (l ++ sl)) := hide ⟨(unhide WD5).ws, (unhide WD5).gr.app h2 g2⟩; obtain ⟨a2, c2, rfl⟩ := h2.shape; clear h2 g2)
                        | (at_builtin; refine append_rws rfl _ _ 36 rfl 25 i25 (.slice none 0 0) 1 24 Tryz.underlying36 hi25 hz25 hs25 hb25 rfl 25 (.slice va Z.length vc) Z.length _ rfl (((unhide WD2).below (unhide AL _ _)).now.row) (.inl rfl) w2.heap.size 1 rfl [.slice a2 (n + sl.length) c2] (by decide) rfl (made_cells w2 [_] 25) (by simp [Value.oneCell']) (by omega) (by omega) ?_; intro v1 w1 h1 g1; have HZ := hide (((unhide WD2).below (unhide AL _ _)).push h1 g1.gw); obtain ⟨a1, c1, rfl⟩ := h1.shape; clear h1 g1)
                        | (go_at_call 40; refine (unhide CS _ (unhide HZ).bel (k + kk) (by omega)).mono ?_; rintro e w6 ⟨j, rfl, hj1, hj2, hj3, h6⟩; subst h6))
                      go_roundw
                      case rel => exact ⟨j, Z.length + 1, c1, a1, Z ++ [(.slice a2 (n + sl.length) c2, l ++ sl)], rfl, rfl, hj2, by omega, hide ⟨unhide HZ, by simp, unhide FIN _ (l ++ sl) (k + kk) j (unhide HF2) hj1 hj2 (unhide hj3).1, (unhide hj3).2⟩⟩
                      case measure => simp [intOf]; omega
                    | false =>
                      have HCD := hide (unhide CB w5 d)
                      rw [hbd] at HCD
                      have HE : Hid ((84 : Int) = (Larder8.lineL T).2 ∧ ∃ Z, WsAt w w5 w.heap.size (.slice none 0 0) Z ∧ 0 = Z.length ∧ Z.map (·.2) = (Larder8.lineL T).1) := hide (by
                        have hT := unhide HTl
                        rw [unhide BAD (by rw [unhide HF, first_glued (by omega) (unhide HCC) (by decide) (unhide HQ1) (by omega) (by rw [← unhide HD]; exact hbd)]; rfl)]
                        have h2 := (unhide WD5).now
                        exact ⟨rfl, [], ⟨h2.bel, h2.sz, .inl ⟨rfl, rfl⟩, fun g hg => by simp [Value.ownBlock] at hg, fun z hz => (by cases hz), List.Pairwise.nil⟩, rfl, rfl⟩)
                      go_wp2_with (go_at_call 41; refine (unhide HCD).mono ?_; rintro e w7 ⟨rfl, h7⟩; subst h7)
                      try rw [Exit.noGoto_ret]
                      go_ret2
                      exact ⟨none, 0, 0, 84, rfl, HE⟩
                  · have f6 : decide ((k : Int) + (kk : Int) < (tn : Int)) = false := decide_eq_false (by omega)
                    have HF2 : Hid (Larder8.firstL (T.drop i) = some (l ++ sl, T.drop (k + kk))) := hide (by
                      have hT := unhide HTl
                      rw [unhide HF, first_shut (by omega) (unhide HCC) (by decide) (unhide HQ1) (.inl (by omega))]
                      rfl)
                    go_wp2_with (first
                      | (at_builtin; refine append_bytes rfl _ _ 25 rfl i5 Tryz.underlying25 hi5 hz5 hs5 hb5 (.slice xa n xc) n (byV l) rfl (unhide WD5).gr.row sa sc sl (by rfl) (unhide HGS).row.inb'.1 (by omega) ?_; intro v2 w2 h2 g2; have WD2 : Hid (WdAt w wr w2 w.heap.size (.slice va Z.length vc) Z v2 (n + sl.length) (l ++ sl)) := hide ⟨(unhide WD5).ws, (unhide WD5).gr.app h2 g2⟩; obtain ⟨a2, c2, rfl⟩ := h2.shape; clear h2 g2)
                      | (at_builtin; refine append_rws rfl _ _ 36 rfl 25 i25 (.slice none 0 0) 1 24 Tryz.underlying36 hi25 hz25 hs25 hb25 rfl 25 (.slice va Z.length vc) Z.length _ rfl (((unhide WD2).below (unhide AL _ _)).now.row) (.inl rfl) w2.heap.size 1 rfl [.slice a2 (n + sl.length) c2] (by decide) rfl (made_cells w2 [_] 25) (by simp [Value.oneCell']) (by omega) (by omega) ?_; intro v1 w1 h1 g1; have HZ := hide (((unhide WD2).below (unhide AL _ _)).push h1 g1.gw); obtain ⟨a1, c1, rfl⟩ := h1.shape; clear h1 g1)
                      | (go_at_call 40; refine (unhide CS _ (unhide HZ).bel (k + kk) (by omega)).mono ?_; rintro e w6 ⟨j, rfl, hj1, hj2, hj3, h6⟩; subst h6))
                    go_roundw
                    case rel => exact ⟨j, Z.length + 1, c1, a1, Z ++ [(.slice a2 (n + sl.length) c2, l ++ sl)], rfl, rfl, hj2, by omega, hide ⟨unhide HZ, by simp, unhide FIN _ (l ++ sl) (k + kk) j (unhide HF2) hj1 hj2 (unhide hj3).1, (unhide hj3).2⟩⟩
                    case measure => simp [intOf]; omega
              · by_cases hq' : c = 39
                · subst hq'
                  have CQ : Hid (Calls Tryz.prog 42 #[.slice (some ⟨b, off + k, none⟩) (tn - k) (cp - k)] wz fun e w' => ∃ (sa : Option Addr) (sn sc kk : Nat), e = .returned (.tuple #[.slice sa sn sc, .int .i64 (kk : Nat)]) ∧ kk ≤ tn - k ∧ (kk = 0 → Hid (Larder8.quotedP 39 (T.drop (k + 1)) = none ∧ Below wz.heap.size wz w')) ∧ (0 < kk → Hid (∃ s, Larder8.quotedP 39 (T.drop (k + 1)) = some (s, T.drop (k + kk)) ∧ Gro wz w' wz.heap.size (.slice sa sn sc) sn s))) := hide (by
                    have hT := unhide HTl
                    have hBk := (((unhide HB).below (unhide WD).now.bel)).drop (i := k)
                    have ed : T.drop k = 39 :: T.drop (k + 1) := by rw [drop_at' (by omega), ← unhide HCC]
                    rw [ed] at hBk
                    refine (quoted_any wz b (off + k) (cp - k) (tn - k) 39 (T.drop (k + 1)) (by decide) (by simp only [List.length_drop]; omega) (by omega) (by omega) hBk).mono ?_
                    rintro e w' ⟨sa, sn, sc, kk, h1, h2, h3, h4⟩
                    refine ⟨sa, sn, sc, kk, h1, h2, h3, fun h => hide ?_⟩
                    obtain ⟨s, h5, h6⟩ := unhide (h4 h)
                    rw [← ed, List.drop_drop] at h5
                    exact ⟨s, h5, h6⟩)
                  have hne : (cp = k) = False := eq_false (by omega)
                  go_wp2_with (first
                    | (go_at_call 41; refine (unhide HCB).mono ?_; rintro e w5 ⟨rfl, h5⟩; subst h5))
                  refine (unhide CQ).mono ?_
                  rintro e w5 ⟨sa, sn, sc, kk, rfl, hkk, hz0, hp0⟩
                  rcases Nat.eq_zero_or_pos kk with h0 | h0
                  · subst h0
                    have HE : Hid ((84 : Int) = (Larder8.lineL T).2 ∧ ∃ Z, WsAt w w5 w.heap.size (.slice none 0 0) Z ∧ 0 = Z.length ∧ Z.map (·.2) = (Larder8.lineL T).1) := hide (by
                      have hT := unhide HTl
                      have h1 := unhide (hz0 rfl)
                      rw [unhide BAD (by rw [unhide HF, first_open (by omega) (unhide HCC) (by decide) h1.1]; rfl)]
                      have h2 := (unhide WD).now.below h1.2
                      exact ⟨rfl, [], ⟨h2.bel, h2.sz, .inl ⟨rfl, rfl⟩, fun g hg => by simp [Value.ownBlock] at hg, fun z hz => (by cases hz), List.Pairwise.nil⟩, rfl, rfl⟩)
                    clear hz0 hp0
                    go_wp2
                    try rw [Exit.noGoto_ret]
                    go_ret2
                    exact ⟨none, 0, 0, 84, rfl, HE⟩
                  · obtain ⟨sl, hq1, hGS⟩ := unhide (hp0 h0)
                    have HQ1 := hide hq1
                    have HGS := hide hGS
                    obtain rfl : sn = sl.length := hGS.len
                    have hsl : sl.length ≤ 1024 := by
                      have h9 := quoted_say _ _ _ (Nat.le_refl _) _ hq1
                      have hT := unhide HTl
                      simp only [List.length_drop] at h9
                      omega
                    have WD5 := hide ((unhide WD).below hGS.bel)
                    have d0 : ((kk : Int) == 0) = false := by rw [beq_eq_false_iff_ne]; omega
                    have d0' : (kk == 0) = false := by rw [beq_eq_false_iff_ne]; omega
                    clear hz0 hp0 hq1 hGS
                    rcases Nat.lt_or_ge (k + kk) tn with hl2 | hl2
                    · have f6 : decide ((k : Int) + (kk : Int) < (tn : Int)) = true := decide_eq_true (by omega)
                      have g3 : (0 : Int) ≤ (k : Int) + (kk : Int) := by omega
                      have g4 : (k : Int) + (kk : Int) < (tn : Int) := by omega
                      have ck2 := unhide HC w5 (unhide WD5).now.bel (k + kk) hl2
                      obtain ⟨d, hd⟩ : ∃ d, d = T.getD (k + kk) 0 := ⟨_, rfl⟩
                      have HD := hide hd
                      rw [← hd] at ck2
                      clear hd
                      cases hbd : Larder8.blankL d with
                      | true =>
                        have HCD := hide (unhide CB w5 d)
                        rw [hbd] at HCD
                        have HF2 : Hid (Larder8.firstL (T.drop i) = some (l ++ sl, T.drop (k + kk))) := hide (by
                          have hT := unhide HTl
                          rw [unhide HF, first_shut (by omega) (unhide HCC) (by decide) (unhide HQ1) (.inr (by rw [← unhide HD]; exact hbd))]
                          rfl)
                        go_wp2_with (first
                          | (go_at_call 41; refine (unhide HCD).mono ?_; rintro e w7 ⟨rfl, h7⟩; subst h7)
                          | (at_builtin; refine append_bytes rfl _ _ 25 rfl i5 Tryz.underlying25 hi5 hz5 hs5 hb5 (.slice xa n xc) n (byV l) rfl (unhide WD5).gr.row sa sc sl (by rfl) (unhide HGS).row.inb'.1 (by omega) ?_; intro v2 w2 h2 g2; have WD2 : Hid (WdAt w wr w2 w.heap.size (.slice va Z.length vc) Z v2 (n + sl.length) (l ++ sl)) := hide ⟨(unhide WD5).ws, (unhide WD5).gr.app h2 g2⟩; obtain ⟨a2, c2, rfl⟩ := h2.shape; clear h2 g2)
                          | (at_builtin; refine append_rws rfl _ _ 36 rfl 25 i25 (.slice none 0 0) 1 24 Tryz.underlying36 hi25 hz25 hs25 hb25 rfl 25 (.slice va Z.length vc) Z.length _ rfl (((unhide WD2).below (unhide AL _ _)).now.row) (.inl rfl) w2.heap.size 1 rfl [.slice a2 (n + sl.length) c2] (by decide) rfl (made_cells w2 [_] 25) (by simp [Value.oneCell']) (by omega) (by omega) ?_; intro v1 w1 h1 g1; have HZ := hide (((unhide WD2).below (unhide AL _ _)).push h1 g1.gw); obtain ⟨a1, c1, rfl⟩ := h1.shape; clear h1 g1)
                          | (go_at_call 40; refine (unhide CS _ (unhide HZ).bel (k + kk) (by omega)).mono ?_; rintro e w6 ⟨j, rfl, hj1, hj2, hj3, h6⟩; subst h6))
                        go_roundw
                        case rel => exact ⟨j, Z.length + 1, c1, a1, Z ++ [(.slice a2 (n + sl.length) c2, l ++ sl)], rfl, rfl, hj2, by omega, hide ⟨unhide HZ, by simp, unhide FIN _ (l ++ sl) (k + kk) j (unhide HF2) hj1 hj2 (unhide hj3).1, (unhide hj3).2⟩⟩
                        case measure => simp [intOf]; omega
                      | false =>
                        have HCD := hide (unhide CB w5 d)
                        rw [hbd] at HCD
                        have HE : Hid ((84 : Int) = (Larder8.lineL T).2 ∧ ∃ Z, WsAt w w5 w.heap.size (.slice none 0 0) Z ∧ 0 = Z.length ∧ Z.map (·.2) = (Larder8.lineL T).1) := hide (by
                          have hT := unhide HTl
                          rw [unhide BAD (by rw [unhide HF, first_glued (by omega) (unhide HCC) (by decide) (unhide HQ1) (by omega) (by rw [← unhide HD]; exact hbd)]; rfl)]
                          have h2 := (unhide WD5).now
                          exact ⟨rfl, [], ⟨h2.bel, h2.sz, .inl ⟨rfl, rfl⟩, fun g hg => by simp [Value.ownBlock] at hg, fun z hz => (by cases hz), List.Pairwise.nil⟩, rfl, rfl⟩)
                        go_wp2_with (go_at_call 41; refine (unhide HCD).mono ?_; rintro e w7 ⟨rfl, h7⟩; subst h7)
                        try rw [Exit.noGoto_ret]
                        go_ret2
                        exact ⟨none, 0, 0, 84, rfl, HE⟩
                    · have f6 : decide ((k : Int) + (kk : Int) < (tn : Int)) = false := decide_eq_false (by omega)
                      have HF2 : Hid (Larder8.firstL (T.drop i) = some (l ++ sl, T.drop (k + kk))) := hide (by
                        have hT := unhide HTl
                        rw [unhide HF, first_shut (by omega) (unhide HCC) (by decide) (unhide HQ1) (.inl (by omega))]
                        rfl)
                      go_wp2_with (first
                        | (at_builtin; refine append_bytes rfl _ _ 25 rfl i5 Tryz.underlying25 hi5 hz5 hs5 hb5 (.slice xa n xc) n (byV l) rfl (unhide WD5).gr.row sa sc sl (by rfl) (unhide HGS).row.inb'.1 (by omega) ?_; intro v2 w2 h2 g2; have WD2 : Hid (WdAt w wr w2 w.heap.size (.slice va Z.length vc) Z v2 (n + sl.length) (l ++ sl)) := hide ⟨(unhide WD5).ws, (unhide WD5).gr.app h2 g2⟩; obtain ⟨a2, c2, rfl⟩ := h2.shape; clear h2 g2)
                        | (at_builtin; refine append_rws rfl _ _ 36 rfl 25 i25 (.slice none 0 0) 1 24 Tryz.underlying36 hi25 hz25 hs25 hb25 rfl 25 (.slice va Z.length vc) Z.length _ rfl (((unhide WD2).below (unhide AL _ _)).now.row) (.inl rfl) w2.heap.size 1 rfl [.slice a2 (n + sl.length) c2] (by decide) rfl (made_cells w2 [_] 25) (by simp [Value.oneCell']) (by omega) (by omega) ?_; intro v1 w1 h1 g1; have HZ := hide (((unhide WD2).below (unhide AL _ _)).push h1 g1.gw); obtain ⟨a1, c1, rfl⟩ := h1.shape; clear h1 g1)
                        | (go_at_call 40; refine (unhide CS _ (unhide HZ).bel (k + kk) (by omega)).mono ?_; rintro e w6 ⟨j, rfl, hj1, hj2, hj3, h6⟩; subst h6))
                      go_roundw
                      case rel => exact ⟨j, Z.length + 1, c1, a1, Z ++ [(.slice a2 (n + sl.length) c2, l ++ sl)], rfl, rfl, hj2, by omega, hide ⟨unhide HZ, by simp, unhide FIN _ (l ++ sl) (k + kk) j (unhide HF2) hj1 hj2 (unhide hj3).1, (unhide hj3).2⟩⟩
                      case measure => simp [intOf]; omega
                · have t1 : ((c : Int) == 34) = false := by rw [beq_eq_false_iff_ne]; omega
                  have t2 : ((c : Int) == 39) = false := by rw [beq_eq_false_iff_ne]; omega
                  have t1' : ((c : Int) != 34) = true := by rw [bne, t1]; rfl
                  have t2' : ((c : Int) != 39) = true := by rw [bne, t2]; rfl
                  have hqc : Larder8.quoteC c = false := by unfold Larder8.quoteC; simp [hq, hq']
                  have HF2 : Hid (Larder8.firstL (T.drop i) = (Larder8.firstL (T.drop (k + 1))).map (fun x => ((l ++ [c]) ++ x.1, x.2))) := hide (by
                    have hT := unhide HTl
                    rw [unhide HF, drop_at' (by omega), ← unhide HCC, first_plain c _ hbl hqc, Option.map_map]
                    congr 1
                    funext x
                    simp)
                  have MB : Hid (Bytes (wz.alloc (.cells #[.int .u8 (c : Nat)] 5)) (some ⟨wz.heap.size, 0, none⟩) [c]) := hide (made_bytes wz [c])
                  go_wp2_with (first
                    | (go_at_call 41; refine (unhide HCB).mono ?_; rintro e w5 ⟨rfl, h5⟩; subst h5)
                    | (at_builtin; refine append_bytes rfl _ _ 25 rfl i5 Tryz.underlying25 hi5 hz5 hs5 hb5 (.slice xa n xc) n (byV l) rfl ((unhide WD).below (unhide AL _ _)).gr.row (some ⟨wz.heap.size, 0, none⟩) 1 [c] rfl (unhide MB) (by simp; omega) ?_; intro v1 w1 h1 g1; have WD2 : Hid (WdAt w wr w1 w.heap.size (.slice va Z.length vc) Z v1 (n + 1) (l ++ [c])) := hide ⟨(unhide WD).ws, ((unhide WD).below (unhide AL _ _)).gr.app h1 g1⟩; obtain ⟨a1, c1, rfl⟩ := h1.shape; clear h1 g1))
                  go_roundw
                  case rel => exact ⟨k + 1, n + 1, c1, a1, l ++ [c], rfl, by go_num, rfl, by omega, by omega, by omega, WD2, HF2⟩
                  case measure => simp [intOf]; omega
          · obtain rfl : k = tn := by omega
            have f4 : decide ((k : Int) < (k : Int)) = false := decide_eq_false (by omega)
            have HF2 : Hid (Larder8.firstL (T.drop i) = some (l, T.drop k)) := hide (by
              have hT := unhide HTl
              rw [unhide HF, List.drop_eq_nil_of_le (by omega), first_end]
              simp)
            go_wp2_with (first
              | (at_builtin; refine append_rws rfl _ _ 36 rfl 25 i25 (.slice none 0 0) 1 24 Tryz.underlying36 hi25 hz25 hs25 hb25 rfl 25 (.slice va Z.length vc) Z.length _ rfl (((unhide WD).below (unhide AL _ _)).now.row) (.inl rfl) wz.heap.size 1 rfl [.slice xa n xc] (by decide) rfl (made_cells wz [_] 25) (by simp [Value.oneCell']) (by omega) (by omega) ?_; intro v1 w1 h1 g1; have HZ := hide (((unhide WD).below (unhide AL _ _)).push h1 g1.gw); obtain ⟨a1, c1, rfl⟩ := h1.shape; clear h1 g1)
              | (go_at_call 40; refine (unhide CS _ (unhide HZ).bel k hk).mono ?_; rintro e w6 ⟨j, rfl, hj1, hj2, hj3, h6⟩; subst h6))
            go_roundw
            case rel => exact ⟨j, Z.length + 1, c1, a1, Z ++ [(.slice xa n xc, l)], rfl, rfl, hj2, by omega, hide ⟨unhide HZ, by simp, unhide FIN _ l k j (unhide HF2) hj1 hj2 (unhide hj3).1, (unhide hj3).2⟩⟩
            case measure => simp [intOf]; omega
      · obtain rfl : i = tn := by omega
        have f3 : decide ((i : Int) < (i : Int)) = false := decide_eq_false (by omega)
        have LW : Hid (Larder8.lineW T = some (Z.map (·.2))) := hide (by
          rw [(unhide hS).2.2.1, line_nil (by have := unhide HTl; omega)]
          simp)
        by_cases h128 : 128 < m
        · have f4 : decide ((128 : Int) < (m : Int)) = true := decide_eq_true (by omega)
          have f5 : decide (128 < m) = true := decide_eq_true h128
          have HE : Hid ((83 : Int) = (Larder8.lineL T).2 ∧ ∃ Z, WsAt w wr w.heap.size (.slice none 0 0) Z ∧ 0 = Z.length ∧ Z.map (·.2) = (Larder8.lineL T).1) := hide (by
            have h1 := unhide EL _ (unhide LW)
            simp only [List.length_map, ← (unhide hS).2.1, if_pos h128] at h1
            rw [h1]
            exact ⟨rfl, [], ⟨(unhide hS).1.bel, (unhide hS).1.sz, .inl ⟨rfl, rfl⟩, fun g hg => by simp [Value.ownBlock] at hg, fun z hz => (by cases hz), List.Pairwise.nil⟩, rfl, rfl⟩)
          go_wp2
          try rw [Exit.noGoto_ret]
          go_ret2
          exact ⟨none, 0, 0, 83, rfl, HE⟩
        · have f4 : decide ((128 : Int) < (m : Int)) = false := decide_eq_false (by omega)
          have f5 : decide (128 < m) = false := decide_eq_false h128
          have HE : Hid ((0 : Int) = (Larder8.lineL T).2 ∧ ∃ Z, WsAt w wr w.heap.size (.slice va m vc) Z ∧ m = Z.length ∧ Z.map (·.2) = (Larder8.lineL T).1) := hide (by
            have h1 := unhide EL _ (unhide LW)
            simp only [List.length_map, ← (unhide hS).2.1, if_neg h128] at h1
            rw [h1]
            exact ⟨rfl, Z, (unhide hS).1, (unhide hS).2.1, rfl⟩)
          go_wp2
          try rw [Exit.noGoto_ret]
          go_ret2
          exact ⟨va, m, vc, 0, rfl, HE⟩
end Go.Proofs.YtecfgbjnjgjkoaaGreatDoor
