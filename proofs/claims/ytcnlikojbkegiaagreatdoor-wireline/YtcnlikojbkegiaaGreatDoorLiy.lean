/- Line of the document, whole. -/
import Derived.Test.YtcnlikojbkegiaaGreatDoorLix
import Derived.Test.YtcnlikojbkegiaaGreatDoorLiu
namespace Go.Proofs.YtcnlikojbkegiaaGreatDoor
open Go.ChangeShapes Go.WideShapes Go.ChangeAt Go.RowKit
set_option linter.unusedVariables false
set_option linter.unusedSimpArgs false
set_option maxRecDepth 20000
set_option maxHeartbeats 4000000

def RlnEnd (w : World) (T : List Nat) (e : Ending) (w' : World) : Prop := ∃ (va : Option Addr) (n vc : Nat) (E : Int), e = .returned (.tuple #[.slice va n vc, .int .i64 E]) ∧ Hid (E = (Larder8.lineL T).2 ∧ ∃ Z, WsAt w w' w.heap.size (.slice va n vc) Z ∧ n = Z.length ∧ Z.map (·.2) = (Larder8.lineL T).1)
theorem WsAt.none' {w W : World} {B : Nat} {v : Value} {Z : List (Value × List Nat)} (h : WsAt w W B v Z) : WsAt w W B (.slice none 0 0) [] := ⟨h.bel, h.sz, .inl ⟨rfl, rfl⟩, fun g hg => by simp [Value.ownBlock] at hg, fun z hz => (by cases hz), List.Pairwise.nil⟩
theorem line_blank' {c : Nat} {r : List Nat} (h : Larder8.blankL c = true) : Larder8.lineW (c :: r) = Larder8.lineW r := by rw [Larder8.lineW, dif_pos h]
theorem line_word' {c : Nat} {r : List Nat} {x : List Nat × List Nat} (hb : Larder8.blankL c = false) (hf : Larder8.firstL (c :: r) = some x) : Larder8.lineW (c :: r) = (Larder8.lineW x.2).map (x.1 :: ·) := line_word (T := c :: r) (i := 0) (by simp) hb hf
theorem line_bad' {c : Nat} {r : List Nat} (hb : Larder8.blankL c = false) (hf : Larder8.firstL (c :: r) = none) : Larder8.lineW (c :: r) = none := line_bad (T := c :: r) (i := 0) (by simp) hb hf
theorem rline_any (w : World) (a : Option Addr) (cp tn : Nat) (T : List Nat) (hR : Rst w a tn cp T) :
    Calls Tryz.prog 16 #[.slice a tn cp] w (RlnEnd w T) := by
  have hn := hR.len
  rcases Nat.lt_or_ge 1024 tn with hbig | hsm
  · have E : Larder8.lineL T = ([], 83) := by unfold Larder8.lineL; rw [if_pos (by omega)]
    have f0 : decide ((1024 : Int) < (tn : Int)) = true := decide_eq_true (by omega)
    have f1 : decide (1024 < tn) = true := decide_eq_true hbig
    have HE : Hid ((83 : Int) = (Larder8.lineL T).2 ∧ ∃ Z, WsAt w w w.heap.size (.slice none 0 0) Z ∧ 0 = Z.length ∧ Z.map (·.2) = (Larder8.lineL T).1) := hide (by rw [E]; exact ⟨rfl, [], WsAt.start w _ (Nat.le_refl _), rfl, rfl⟩)
    clear hR hn E
    go_enter Tryz.func16, Tryz.ntmps16
    go_wp2
    go_ret2
    exact ⟨none, 0, 0, 83, rfl, HE⟩
  · have f0 : decide ((1024 : Int) < (tn : Int)) = false := decide_eq_false (by omega)
    have f1 : decide (1024 < tn) = false := decide_eq_false (by omega)
    have EL : Hid (∀ R, Larder8.lineW T = R → Larder8.lineL T = (match R with | none => ([], 84) | some w => if 128 < w.length then ([], 83) else (w, 0))) := hide (fun R h => by unfold Larder8.lineL; rw [if_neg (by omega), h]; cases R <;> rfl)
    have HTl := hide hn
    have HR := hide hR
    have CB : Hid (∀ W (c : Nat), Calls Tryz.prog 43 #[.int .u8 (c : Nat)] W fun e w' => e = .returned (.bool (Larder8.blankL c)) ∧ W = w') := hide (fun W c => (rblank_any W c).mono (fun e w' h => ⟨h.1, h.2.symm⟩))
    have AL : Hid (∀ W : World, ∀ o, Below W.heap.size W (W.alloc o)) := hide (fun W o => (Below.refl _ _).alloc (Nat.le_refl _) _)
    obtain ⟨i25, hi25, hz25, hs25, hb25⟩ := info_partsS Tryz.info25s
    clear hn hR
    go_enter Tryz.func16, Tryz.ntmps16
    go_wp2
    go_loopw [0, 4] (fun bv v wr => ∃ (ra : Option Addr) (rn rc m vc : Nat) (va : Option Addr) (rest : List Nat) (Z : List (Value × List Nat)), bv = .slice ra rn rc ∧ v = .slice va m vc ∧ m + rn ≤ tn ∧ Hid (WsAt w wr w.heap.size (.slice va m vc) Z ∧ m = Z.length ∧ Larder8.lineW T = (Larder8.lineW rest).map (Z.map (·.2) ++ ·) ∧ Rst w ra rn rc rest)) (fun bv _ _ => Bk.lenOf bv)
    case atStart => exact ⟨a, tn, cp, 0, 0, none, T, [], rfl, rfl, by omega, hide ⟨WsAt.start w _ (Nat.le_refl _), rfl, by simp, unhide HR⟩⟩
    case round =>
      obtain ⟨ra, rn, rc, m, vc, va, rest, Z, rfl, rfl, hmn, hS⟩ := hrel
      rename World => wr
      rcases Nat.eq_zero_or_pos rn with hz | hp
      · subst hz
        have LW : Hid (Larder8.lineW T = some (Z.map (·.2))) := hide (by
          have hl := (unhide hS).2.2.2.len
          have : rest = [] := List.eq_nil_of_length_eq_zero hl.symm
          rw [(unhide hS).2.2.1, this, Larder8.lineW]
          simp)
        by_cases h128 : 128 < m
        · have f4 : decide ((128 : Int) < (m : Int)) = true := decide_eq_true (by omega)
          have f5 : decide (128 < m) = true := decide_eq_true h128
          have HE : Hid ((83 : Int) = (Larder8.lineL T).2 ∧ ∃ Z, WsAt w wr w.heap.size (.slice none 0 0) Z ∧ 0 = Z.length ∧ Z.map (·.2) = (Larder8.lineL T).1) := hide (by
            have h1 := unhide EL _ (unhide LW)
            simp only [List.length_map, ← (unhide hS).2.1, if_pos h128] at h1
            rw [h1]
            exact ⟨rfl, [], (unhide hS).1.none', rfl, rfl⟩)
          go_wp2
          go_ret2
          exact ⟨none, 0, 0, 83, rfl, HE⟩
        · have f4 : decide ((128 : Int) < (m : Int)) = false := decide_eq_false (by omega)
          have f5 : decide (128 < m) = false := decide_eq_false h128
          have HE : Hid ((0 : Int) = (Larder8.lineL T).2 ∧ ∃ Z, WsAt w wr w.heap.size (.slice va m vc) Z ∧ m = Z.length ∧ Z.map (·.2) = (Larder8.lineL T).1) := hide (by
            have h1 := unhide EL _ (unhide LW)
            simp only [List.length_map, ← (unhide hS).2.1, if_neg h128] at h1
            rw [h1]
            exact ⟨rfl, Z, (unhide hS).1, (unhide hS).2.1, rfl⟩)
          go_wp2
          go_ret2
          exact ⟨va, m, vc, 0, rfl, HE⟩
      · obtain ⟨hS1, hm, hS2, hS3⟩ := unhide hS
        subst hm
        obtain ⟨b, off, rfl, hb, hcell⟩ := hS3.at hp
        have hlen := hS3.len
        have hle := hS3.le
        have htop := hS3.top
        obtain ⟨c, r, rfl⟩ : ∃ c r, rest = c :: r := by
          cases rest with
          | nil => simp at hlen; omega
          | cons c r => exact ⟨c, r, rfl⟩
        have c0 : wr.cell? ⟨b, off, none⟩ = some (.int .u8 (c : Nat)) := by
          rw [hS1.bel.cell hb]
          exact hcell 0 hp
        have HS1 := hide hS1
        have HS2 := hide hS2
        have HS3 := hide hS3
        have HLEN := hide hlen
        have f2 : decide ((0 : Int) < (rn : Int)) = true := decide_eq_true (by omega)
        have f2n : decide (0 < rn) = true := decide_eq_true hp
        have g0 : (0 : Int) < (rn : Int) := by omega
        have g1 : (1 : Int) ≤ (rn : Int) := by omega
        have g1n : 1 ≤ rn := hp
        clear hS hS1 hS2 hS3 hcell hlen
        cases hbl : Larder8.blankL c with
        | true =>
          have CBc : Hid (∀ W, Calls Tryz.prog 43 #[.int .u8 (c : Nat)] W fun e w' => e = .returned (.bool true) ∧ W = w') := hide (fun W => by have := unhide CB W c; rw [hbl] at this; exact this)
          have HE : Hid (∀ x n2 c2, (x = some ⟨b, off + 1, none⟩ ∨ rc = 1) → n2 = rn - 1 → c2 = rc - 1 → Larder8.lineW T = (Larder8.lineW r).map (Z.map (·.2) ++ ·) ∧ Rst w x n2 c2 r) := hide (fun x n2 c2 h1 h2 h3 => ⟨by rw [unhide HS2, line_blank' hbl], by
            subst h2 h3
            have hl := unhide HLEN
            simp only [List.length_cons] at hl
            rcases h1 with rfl | h1
            · exact (unhide HS3).drop 1 hp
            · exact ⟨.inl (List.eq_nil_of_length_eq_zero (by omega)), by omega, by omega, by omega⟩⟩)
          go_wp2_with (go_at_call 43; with_reducible refine (unhide CBc _).mono ?_; rintro e w5 ⟨rfl, h5⟩; subst h5)
          all_goals refine ⟨⟨_, rn - 1, rc - 1, Z.length, vc, va, r, Z, rfl, rfl, by omega, hide ⟨unhide HS1, rfl, unhide HE _ _ _ ?_ rfl rfl⟩⟩, by show rn - 1 < rn; omega⟩
          all_goals
            by_cases h : rc = 1
            · exact .inr h
            · exact .inl (if_neg h)
        | false =>
          have CBc : Hid (∀ W, Calls Tryz.prog 43 #[.int .u8 (c : Nat)] W fun e w' => e = .returned (.bool false) ∧ W = w') := hide (fun W => by have := unhide CB W c; rw [hbl] at this; exact this)
          have CF : Hid (Calls Tryz.prog 44 #[.slice (some ⟨b, off, none⟩) rn rc] wr (FstEnd wr (some ⟨b, off, none⟩) rn rc (c :: r))) := hide (rfirst_any wr _ rn rc (c :: r) ((unhide HS3).below (unhide HS1).bel) hp (by omega))
          go_wp2_with (go_at_call 43; with_reducible refine (unhide CBc _).mono ?_; rintro e w5 ⟨rfl, h5⟩; subst h5)
          refine (unhide CF).mono ?_
          rintro e w5 ⟨xa, xn, xc, ya, yn, yc, ok, rfl, h5⟩
          cases ok with
          | false =>
            have HE : Hid ((84 : Int) = (Larder8.lineL T).2 ∧ ∃ Z, WsAt w w5 w.heap.size (.slice none 0 0) Z ∧ 0 = Z.length ∧ Z.map (·.2) = (Larder8.lineL T).1) := hide (by
              rw [unhide EL none (by rw [unhide HS2, line_bad' hbl ((unhide h5).2.1 rfl)]; rfl)]
              exact ⟨rfl, [], ((unhide HS1).below (unhide h5).1).none', rfl, rfl⟩)
            go_wp2
            go_ret2
            exact ⟨none, 0, 0, 84, rfl, HE⟩
          | true =>
            obtain ⟨x, hx1, hx2, hx3⟩ := (unhide h5).2.2 rfl
            have WD : Hid (WdAt w wr w5 w.heap.size (.slice va Z.length vc) Z (.slice xa xn xc) xn x.1) := hide ⟨unhide HS1, hx2⟩
            have R5 := hide (hx3 w (unhide HS3))
            have hyn : yn < rn := by
              have h1 := Larder8.first_len c r hbl x hx1
              have h2 := (unhide R5).len
              have h3 := unhide HLEN
              omega
            have LX : Hid (∀ v : Value, Larder8.lineW T = (Larder8.lineW x.2).map ((Z ++ [(v, x.1)]).map (·.2) ++ ·)) := hide (fun v => by
              rw [unhide HS2, line_word' hbl hx1, Option.map_map]
              congr 1
              funext y
              simp)
            clear hx1 hx2 hx3 h5
            go_wp2_with (at_builtin; refine append_rws rfl _ _ 36 rfl 25 i25 (.slice none 0 0) 1 24 Tryz.underlying36 hi25 hz25 hs25 hb25 rfl 25 (.slice va Z.length vc) Z.length _ rfl (((unhide WD).below (unhide AL _ _)).now.row) (.inl rfl) w5.heap.size 1 rfl [.slice xa xn xc] (by decide) rfl (made_cells w5 [_] 25) (by simp [Value.oneCell']) (by omega) (by omega) ?_; intro v1 w1 h1 g1; have HZ := hide (((unhide WD).below (unhide AL _ _)).push h1 g1.gw); obtain ⟨a1, c1, rfl⟩ := h1.shape; clear h1 g1)
            refine ⟨⟨ya, yn, yc, Z.length + 1, c1, a1, x.2, Z ++ [(.slice xa xn xc, x.1)], rfl, rfl, by omega, hide ⟨unhide HZ, by simp, unhide LX _, unhide R5⟩⟩, by show yn < rn; exact hyn⟩
end Go.Proofs.YtcnlikojbkegiaaGreatDoor
