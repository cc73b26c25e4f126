/- The document's Heard. -/
import Derived.Test.YtjmnddcombepaaaDl
namespace Go.Proofs.Ytjmnddcombepaaa
open Go.ChangeShapes Go.WideShapes Go.ChangeAt Go.RowKit Go.Maps
set_option linter.unusedVariables false
set_option linter.unusedSimpArgs false
set_option maxRecDepth 100000
set_option maxHeartbeats 8000000
/-- by which patterns a connection hears, asked of each in turn -/
def dhP (G : List UInt8 → List UInt8 → Bool) (T : List UInt8) (c : Int) (M : List (List UInt8)) : List Hit := (M.filter (fun P => G P T)).map (fun P => (c, true, P))
theorem dhP_snoc (G : List UInt8 → List UInt8 → Bool) (T : List UInt8) (c : Int) (M : List (List UInt8)) (P : List UInt8) : dhP G T c (M ++ [P]) = dhP G T c M ++ (if G P T = true then [(c, true, P)] else []) := by
  unfold dhP
  rw [List.filter_append, List.map_append]
  cases h : G P T <;> simp [h]
theorem dhP_len (G : List UInt8 → List UInt8 → Bool) (T : List UInt8) (c : Int) (M : List (List UInt8)) : (dhP G T c M).length ≤ M.length := by
  unfold dhP
  rw [List.length_map]
  exact List.length_filter_le _ _
def dhN (G : List UInt8 → List UInt8 → Bool) (L : List Key) (T : List UInt8) : Nat → List Hit
  | 0 => []
  | n + 1 => dhN G L T n ++ (hearT L T n ++ dhP G T n (namesL L n true))
theorem dhN_len (G : List UInt8 → List UInt8 → Bool) (L : List Key) (T : List UInt8) : ∀ n, (dhN G L T n).length ≤ n * (L.length + 1)
  | 0 => by simp [dhN]
  | n + 1 => by
    have h1 := dhN_len G L T n
    have h2 := hearT_len L T n
    have h3 := dhP_len G T n (namesL L n true)
    have h4 : (namesL L n true).length ≤ L.length := textsL_len L _
    show (dhN G L T n ++ (hearT L T n ++ dhP G T n (namesL L n true))).length ≤ _
    simp only [List.length_append]
    rw [Nat.succ_mul]
    omega
theorem dhN_hear (G : List UInt8 → List UInt8 → Bool) (L : List Key) (T : List UInt8) : ∀ n, dhN G L T n = hearN L T (metL G L T) n
  | 0 => rfl
  | n + 1 => by
    show dhN G L T n ++ (hearT L T n ++ dhP G T n (namesL L n true)) = hearN L T (metL G L T) n ++ (hearT L T n ++ hearP L n (metL G L T))
    rw [dhN_hear G L T n]
    congr 2
    unfold dhP hearP
    congr 1
    refine inc_ext ((textsL_inc L _).1.sublist List.filter_sublist) (((unlikeL_inc L true).sublist List.filter_sublist).sublist List.filter_sublist) (fun x => ?_)
    rw [List.mem_filter, List.mem_filter, metL, List.mem_filter, mem_unlikeL, namesL, mem_textsL]
    constructor
    · rintro ⟨⟨⟨c, T', q⟩, hk, hp, rfl⟩, h2⟩
      simp only [Bool.and_eq_true, decide_eq_true_eq, beq_iff_eq] at hp
      obtain ⟨rfl, rfl⟩ := hp
      exact ⟨⟨⟨_, hk⟩, h2⟩, by simpa using hk⟩
    · rintro ⟨⟨-, h2⟩, h3⟩
      exact ⟨⟨(n, x, true), by simpa using h3, by simp, rfl⟩, h2⟩
theorem dh_hear (G : List UInt8 → List UInt8 → Bool) (L : List Key) (T : List UInt8) : dhN G L T 8 = hearL G L T := dhN_hear G L T 8
/-- between the connections -/
structure HoAt (w wr : World) (v : Value) (l : List Hit) : Prop where
  bel : Below w.heap.size w wr
  hits : OwnH wr w.heap.size v l
theorem HoAt.below {w wr w' : World} {v : Value} {l : List Hit} (h : HoAt w wr v l) (hb : Below wr.heap.size wr w') : HoAt w w' v l := ⟨h.bel.trans (hb.mono h.bel.size), h.hits.below hb⟩
theorem HoAt.push {w wr w' : World} {v v' : Value} {l : List Hit} {x : Hit} {o : Obj} (h : HoAt w wr v l) (hg : (wr.alloc o).grownBy w' v.ownBlock) (ho : w'.ownsRow w.heap.size 45 3 v' (l.length + 1) (l.flatMap hitC ++ hitC x)) : HoAt w w' v' (l ++ [x]) := by
  have ha := h.below ((Below.refl _ _).alloc (Nat.le_refl _) o)
  refine ⟨ha.bel.grown hg ha.bel.size (fun k hk => (ha.hits.ge k hk).1), ?_⟩
  unfold OwnH
  simpa [List.flatMap_append] using ho
theorem HeAt.ho {w wr : World} {pv v : Value} {M : List (List UInt8)} {l : List Hit} (h : HeAt w wr pv M v l) : HoAt w wr v l := ⟨h.bel, h.hits⟩
theorem dheard_any (G : List UInt8 → List UInt8 → Bool) (hG : GlobIs G) (w : World) (q : Nat) (L : List Key) (T : List UInt8) (h : RP w q L) (hL : L.length ≤ 500000) (hl : ∀ k ∈ L, k.2.1.length ≤ 4096) (hT : T.length ≤ 1073741824) :
    Calls Try.prog 49 #[.pointer (some ⟨q, 0, none⟩), .string (bs T)] w (HEnd w (hearL G L T)) := by
  rw [← dh_hear]
  obtain ⟨i0, hi, hz0, hz1, hz2⟩ := info_parts info45
  have CF : Hid (∀ (W : World) (v : Value) (l : List Hit) (c : Nat), Hid (HoAt w W v l) → Calls Try.prog 67 #[.pointer (some ⟨q, 0, none⟩), .agg #[.int .i64 (c : Nat), .string (bs T), .bool false]] W fun e w' => e = .returned (.int .i64 (findDI L ((c : Int), T, false))) ∧ Hid (HoAt w w' v l)) := hide (fun W v l c hW => (dfind_any W q L ((c : Int), T, false) (h.below (unhide hW).bel) (by omega)).mono (fun e w' ⟨h1, h2⟩ => ⟨h1, hide ((unhide hW).below (unhide h2))⟩))
  have CN : Hid (∀ (W : World) (v : Value) (l : List Hit) (c : Nat), Hid (HoAt w W v l) → Calls Try.prog 51 #[.pointer (some ⟨q, 0, none⟩), .int .i64 (c : Nat), .bool true] W fun e w' => ∃ pa pn pc, e = .returned (.slice pa pn pc) ∧ Hid (HeAt w w' (.slice pa pn pc) (namesL L c true) v l ∧ pn = (namesL L c true).length)) := hide (fun W v l c hW => by
    refine (dnames_any W q L c true (h.below (unhide hW).bel) hL hl).mono ?_
    rintro e w' ⟨pa, pn, pc, rfl, H⟩
    have h2 := (unhide hW).below (unhide H).2.1
    exact ⟨pa, pn, pc, rfl, hide ⟨⟨h2.bel, (unhide H).1.mono (unhide hW).bel.size, h2.hits⟩, (unhide H).2.2⟩⟩)
  have HNl : Hid (∀ c : Nat, (namesL L c true).length ≤ 500000 ∧ ∀ P ∈ namesL L c true, P.length ≤ 4096) := hide (fun c => ⟨Nat.le_trans (textsL_len L _) hL, fun P hP => by
    obtain ⟨k, hk, _, rfl⟩ := textsL_sub hP
    exact hl k hk⟩)
  have HDl : Hid (∀ c, c ≤ 8 → (dhN G L T c).length ≤ 4000008) := hide (fun c hc => by
    have h1 := dhN_len G L T c
    have h2 : c * (L.length + 1) ≤ 8 * 500001 := Nat.mul_le_mul hc (by omega)
    omega)
  clear h hL hl
  unfold HEnd
  go_enter Try.func49, Try.ntmps49
  go_wp2_with fail
  go_loopw [5, 6] (fun v iv wr => ∃ (c : Nat), iv = .int .i64 (c : Nat) ∧ c ≤ 8 ∧ Hid (HoAt w wr v (dhN G L T c))) (fun _ iv _ => 8 - (intOf iv).toNat)
  case atStart => exact ⟨0, rfl, by omega, hide ⟨Below.refl _ _, OwnH.nil _ _⟩⟩
  case round =>
    rename World => wo
    obtain ⟨c, rfl, hc, HE⟩ := hrel
    by_cases hc8 : c < 8
    · have f1 : decide ((c : Int) < 8) = true := decide_eq_true (by omega)
      have f1' : decide (c < 8) = true := decide_eq_true hc8
      have hcl := (unhide HDl) c hc
      have CF1 := (unhide CF) wo _ _ c HE
      obtain ⟨fi, hfi⟩ : ∃ fi, fi = findDI L ((c : Int), T, false) := ⟨_, rfl⟩
      rw [← hfi] at CF1
      have HF := hide hfi
      clear hfi
      obtain ⟨H0, hH0⟩ : ∃ H0, H0 = dhN G L T c := ⟨_, rfl⟩
      rw [← hH0] at HE CF1 hcl
      have HH0 := hide hH0
      clear hH0
      have hov := (unhide HE).hits
      by_cases hf : 0 ≤ fi
      · have f3 : decide ((0 : Int) ≤ fi) = true := decide_eq_true hf
        have f4 : decide (fi ≥ 0) = true := decide_eq_true hf
        have hh : Hid (hearT L T c = [((c : Int), false, T)]) := hide (by unfold hearT; rw [if_pos (findDI_ge.1 (by rw [← unhide HF]; exact hf))])
        clear hf hov
        go_wp2_with (first
          | (go_at_call 67; with_reducible refine CF1.mono ?_; clear CF1; rintro e w2 ⟨rfl, k2⟩; have hrw := (unhide k2).hits; have hsz := (unhide k2).bel.size)
          | (at_builtin; refine wpList_append_own _ rfl _ _ 35 rfl w.heap.size 45 i0 _ 3 32 Try.underlying35 hi hz0 hz1 hz2 rfl (by decide) _ _ _ rfl (World.ownsRow.alloc hrw (.cells #[.int .i64 (c : Nat), .bool false, .string (bs T)] 45)) ⟨w2.heap.size, 0, none⟩ 1 1 [.int .i64 (c : Nat), .bool false, .string (bs T)] rfl rfl (cell_three_new _ _ _ _ _) (by simp [Value.oneCell']) (by unfold maxLen; omega) (by omega) (by simp; omega) ?_; intro v' w4 hown' hg4 hnil4; have K4 := hide ((unhide k2).push (x := ((c : Int), false, T)) hg4 hown'); go_frame)
          | (go_at_call 51; with_reducible refine ((unhide CN) _ _ _ c K4).mono ?_; rintro e w5 ⟨pa, pn, pc, rfl, k5⟩))
        have hH1 : (H0 ++ [((c : Int), false, T)]).length ≤ 4000009 := by rw [List.length_append]; show H0.length + 1 ≤ _; omega
        have HX : Hid (H0 ++ [((c : Int), false, T)] = H0 ++ hearT L T c) := hide (by rw [unhide hh])
        generalize H0 ++ [((c : Int), false, T)] = H1 at k5 hH1 HX
        have hpn : Hid (pn = (namesL L c true).length) := hide (unhide k5).2
        have hpl : pn ≤ 500000 := by rw [unhide hpn]; exact ((unhide HNl) c).1
        have HMl : Hid (∀ P ∈ namesL L c true, P.length ≤ 4096) := hide ((unhide HNl) c).2
        have k6 := hide (unhide k5).1
        have HEnd : Hid (∀ W v, HoAt w W v (H1 ++ dhP G T c (namesL L c true)) → HoAt w W v (dhN G L T (c + 1))) := hide (fun W v hW => by
          show HoAt w W v (dhN G L T c ++ (hearT L T c ++ dhP G T c (namesL L c true)))
          rw [← unhide HH0, ← List.append_assoc, ← unhide HX]
          exact hW)
        clear k5
        generalize namesL L c true = M at k6 hpn HMl HEnd
        go_loopw [5, 8] (fun v jv wr => ∃ (j : Nat), jv = .int .i64 (j : Nat) ∧ j ≤ pn ∧ Hid (HeAt w wr (.slice pa pn pc) M v (H1 ++ dhP G T c (M.take j)))) (fun _ jv _ => pn - (intOf jv).toNat)
        case atStart => exact ⟨0, rfl, Nat.zero_le _, hide (by rw [List.take_zero, show dhP G T c [] = [] from rfl, List.append_nil]; exact unhide k6)⟩
        case round =>
          rename World => wr
          obtain ⟨j, rfl, hj, HJ⟩ := hrel
          by_cases hlt : j < pn
          · have g0 : decide ((j : Int) < (pn : Int)) = true := decide_eq_true (by omega)
            have g0' : decide (j < pn) = true := decide_eq_true hlt
            have g1 : (0 : Int) ≤ (j : Int) := by omega
            have g2 : (j : Int) < (pn : Int) := by omega
            have hjM : Hid (j < M.length) := hide (by rw [← unhide hpn]; exact hlt)
            obtain ⟨pg, rfl, -, hpgl, hcell⟩ := (unhide HJ).pats.cell (unhide hjM)
            have hPl : Hid ((M.getD j []).length ≤ 4096) := hide ((unhide HMl) _ (getD_mem (unhide hjM)))
            have htk : Hid (M.take (j + 1) = M.take j ++ [M.getD j []]) := hide (take_snoc (unhide hjM))
            have hjl : (H1 ++ dhP G T c (M.take j)).length ≤ 8000000 := by
              have h3 := dhP_len G T c (M.take j)
              rw [List.length_take] at h3
              have := unhide hpn
              rw [List.length_append]
              omega
            generalize M.getD j [] = P at hcell hPl htk
            obtain ⟨H2, hH2⟩ : ∃ H2, H2 = H1 ++ dhP G T c (M.take j) := ⟨_, rfl⟩
            rw [← hH2] at HJ hjl
            have HS := dhP_snoc G T c (M.take j) P
            rw [← unhide htk] at HS
            obtain ⟨c1, wc1, hcv1, HC1⟩ := conv_txt wr P
            obtain ⟨c2, wc2, hcv2, HC2⟩ := conv_txt wc1 T
            have HB2 := hide ((unhide HC1).2.1.trans ((unhide HC2).2.1.mono (unhide HC1).2.1.size))
            have C68 := dglob_any G hG wc2 (some ⟨wr.heap.size, 0, none⟩) (some ⟨wc1.heap.size, 0, none⟩) c1 c2 P T (Nat.le_trans (unhide hPl) (by decide)) hT ((bytes_of (g := wr.heap.size) (by have := (unhide HC1).2.2; omega) (unhide HC1).1).below' (unhide HC2).2.1) (bytes_of (g := wc1.heap.size) (by have := (unhide HC2).2.2; omega) (unhide HC2).1)
            by_cases hg : G P T = true
            · have HS2 : Hid (H1 ++ dhP G T c (M.take (j + 1)) = H2 ++ [((c : Int), true, P)]) := hide (by rw [HS, if_pos hg, hH2, List.append_assoc])
              rw [hg] at C68
              clear hg HS hH2
              go_wp2_with (first
                | (go_at_call 68; refine C68.mono ?_; clear C68; rintro e w3 ⟨rfl, H3⟩; have HK := hide ((unhide HB2).trans ((unhide H3).mono (unhide HB2).size)); have y0 := ((unhide HK).cell (p := ⟨pg, j, none⟩) hpgl).trans hcell; have K3 := hide ((unhide HJ).below (unhide HK)); have hrw := (unhide K3).hits; have hsz := (unhide K3).bel.size)
                | (at_builtin; refine wpList_append_own _ rfl _ _ 35 rfl w.heap.size 45 i0 _ 3 32 Try.underlying35 hi hz0 hz1 hz2 rfl (by decide) _ _ _ rfl (World.ownsRow.alloc hrw (.cells #[.int .i64 (c : Nat), .bool true, .string (bs P)] 45)) ⟨w3.heap.size, 0, none⟩ 1 1 [.int .i64 (c : Nat), .bool true, .string (bs P)] rfl rfl (cell_three_new _ _ _ _ _) (by simp [Value.oneCell']) (by unfold maxLen; omega) (by omega) (by simp; omega) ?_; intro v' w4 hown' hg4 hnil4; have K4 := hide ((unhide K3).push (x := ((c : Int), true, P)) hg4 hown'); go_frame))
              all_goals go_roundw
              case rel => exact ⟨j + 1, by go_num, by omega, hide (by rw [unhide HS2]; exact unhide K4)⟩
              case measure => simp [intOf]; omega
            · have hgf : G P T = false := by simpa using hg
              have HS2 : Hid (H1 ++ dhP G T c (M.take (j + 1)) = H2) := hide (by rw [HS, if_neg hg, List.append_nil, hH2])
              rw [hgf] at C68
              clear hg hgf HS hH2
              go_wp2_with (first
                | (go_at_call 68; refine C68.mono ?_; clear C68; rintro e w3 ⟨rfl, H3⟩; have HK := hide ((unhide HB2).trans ((unhide H3).mono (unhide HB2).size))))
              all_goals go_roundw
              case rel => exact ⟨j + 1, by go_num, by omega, hide (by rw [unhide HS2]; exact (unhide HJ).below (unhide HK))⟩
              case measure => simp [intOf]; omega
          · obtain rfl : j = pn := by omega
            have g0 : decide ((j : Int) < (j : Int)) = false := decide_eq_false (by omega)
            have g0' : decide (j < j) = false := decide_eq_false (by omega)
            have ht : M.take j = M := List.take_of_length_le (by have := unhide hpn; omega)
            rw [ht] at HJ
            clear ht
            go_wp2_with fail
            all_goals go_roundw
            case rel => exact ⟨c + 1, by go_num, by omega, hide ((unhide HEnd) _ _ (unhide HJ).ho)⟩
            case measure => simp [intOf]; omega
      · have f3 : decide ((0 : Int) ≤ fi) = false := decide_eq_false hf
        have f4 : decide (fi ≥ 0) = false := decide_eq_false hf
        have hh : Hid (hearT L T c = []) := hide (by unfold hearT; rw [if_neg (fun z => hf (by rw [unhide HF]; exact findDI_ge.2 z))])
        clear hf hov
        go_wp2_with (first
          | (go_at_call 67; with_reducible refine CF1.mono ?_; clear CF1; rintro e w2 ⟨rfl, k2⟩)
          | (go_at_call 51; with_reducible refine ((unhide CN) _ _ _ c k2).mono ?_; rintro e w5 ⟨pa, pn, pc, rfl, k5⟩))
        have hH1 : H0.length ≤ 4000009 := by omega
        have HX : Hid (H0 = H0 ++ hearT L T c) := hide (by rw [unhide hh, List.append_nil])
        obtain ⟨H1, hH⟩ : ∃ H1, H1 = H0 := ⟨_, rfl⟩
        have HXX : Hid (H1 = H0 ++ hearT L T c) := hide (by rw [hH]; exact unhide HX)
        rw [← hH] at k5 hH1
        clear hH HX
        have HX := HXX
        clear HXX
        have hpn : Hid (pn = (namesL L c true).length) := hide (unhide k5).2
        have hpl : pn ≤ 500000 := by rw [unhide hpn]; exact ((unhide HNl) c).1
        have HMl : Hid (∀ P ∈ namesL L c true, P.length ≤ 4096) := hide ((unhide HNl) c).2
        have k6 := hide (unhide k5).1
        have HEnd : Hid (∀ W v, HoAt w W v (H1 ++ dhP G T c (namesL L c true)) → HoAt w W v (dhN G L T (c + 1))) := hide (fun W v hW => by
          show HoAt w W v (dhN G L T c ++ (hearT L T c ++ dhP G T c (namesL L c true)))
          rw [← unhide HH0, ← List.append_assoc, ← unhide HX]
          exact hW)
        clear k5
        generalize namesL L c true = M at k6 hpn HMl HEnd
        go_loopw [5, 8] (fun v jv wr => ∃ (j : Nat), jv = .int .i64 (j : Nat) ∧ j ≤ pn ∧ Hid (HeAt w wr (.slice pa pn pc) M v (H1 ++ dhP G T c (M.take j)))) (fun _ jv _ => pn - (intOf jv).toNat)
        case atStart => exact ⟨0, rfl, Nat.zero_le _, hide (by rw [List.take_zero, show dhP G T c [] = [] from rfl, List.append_nil]; exact unhide k6)⟩
        case round =>
          rename World => wr
          obtain ⟨j, rfl, hj, HJ⟩ := hrel
          by_cases hlt : j < pn
          · have g0 : decide ((j : Int) < (pn : Int)) = true := decide_eq_true (by omega)
            have g0' : decide (j < pn) = true := decide_eq_true hlt
            have g1 : (0 : Int) ≤ (j : Int) := by omega
            have g2 : (j : Int) < (pn : Int) := by omega
            have hjM : Hid (j < M.length) := hide (by rw [← unhide hpn]; exact hlt)
            obtain ⟨pg, rfl, -, hpgl, hcell⟩ := (unhide HJ).pats.cell (unhide hjM)
            have hPl : Hid ((M.getD j []).length ≤ 4096) := hide ((unhide HMl) _ (getD_mem (unhide hjM)))
            have htk : Hid (M.take (j + 1) = M.take j ++ [M.getD j []]) := hide (take_snoc (unhide hjM))
            have hjl : (H1 ++ dhP G T c (M.take j)).length ≤ 8000000 := by
              have h3 := dhP_len G T c (M.take j)
              rw [List.length_take] at h3
              have := unhide hpn
              rw [List.length_append]
              omega
            generalize M.getD j [] = P at hcell hPl htk
            obtain ⟨H2, hH2⟩ : ∃ H2, H2 = H1 ++ dhP G T c (M.take j) := ⟨_, rfl⟩
            rw [← hH2] at HJ hjl
            have HS := dhP_snoc G T c (M.take j) P
            rw [← unhide htk] at HS
            obtain ⟨c1, wc1, hcv1, HC1⟩ := conv_txt wr P
            obtain ⟨c2, wc2, hcv2, HC2⟩ := conv_txt wc1 T
            have HB2 := hide ((unhide HC1).2.1.trans ((unhide HC2).2.1.mono (unhide HC1).2.1.size))
            have C68 := dglob_any G hG wc2 (some ⟨wr.heap.size, 0, none⟩) (some ⟨wc1.heap.size, 0, none⟩) c1 c2 P T (Nat.le_trans (unhide hPl) (by decide)) hT ((bytes_of (g := wr.heap.size) (by have := (unhide HC1).2.2; omega) (unhide HC1).1).below' (unhide HC2).2.1) (bytes_of (g := wc1.heap.size) (by have := (unhide HC2).2.2; omega) (unhide HC2).1)
            by_cases hg : G P T = true
            · have HS2 : Hid (H1 ++ dhP G T c (M.take (j + 1)) = H2 ++ [((c : Int), true, P)]) := hide (by rw [HS, if_pos hg, hH2, List.append_assoc])
              rw [hg] at C68
              clear hg HS hH2
              go_wp2_with (first
                | (go_at_call 68; refine C68.mono ?_; clear C68; rintro e w3 ⟨rfl, H3⟩; have HK := hide ((unhide HB2).trans ((unhide H3).mono (unhide HB2).size)); have y0 := ((unhide HK).cell (p := ⟨pg, j, none⟩) hpgl).trans hcell; have K3 := hide ((unhide HJ).below (unhide HK)); have hrw := (unhide K3).hits; have hsz := (unhide K3).bel.size)
                | (at_builtin; refine wpList_append_own _ rfl _ _ 35 rfl w.heap.size 45 i0 _ 3 32 Try.underlying35 hi hz0 hz1 hz2 rfl (by decide) _ _ _ rfl (World.ownsRow.alloc hrw (.cells #[.int .i64 (c : Nat), .bool true, .string (bs P)] 45)) ⟨w3.heap.size, 0, none⟩ 1 1 [.int .i64 (c : Nat), .bool true, .string (bs P)] rfl rfl (cell_three_new _ _ _ _ _) (by simp [Value.oneCell']) (by unfold maxLen; omega) (by omega) (by simp; omega) ?_; intro v' w4 hown' hg4 hnil4; have K4 := hide ((unhide K3).push (x := ((c : Int), true, P)) hg4 hown'); go_frame))
              all_goals go_roundw
              case rel => exact ⟨j + 1, by go_num, by omega, hide (by rw [unhide HS2]; exact unhide K4)⟩
              case measure => simp [intOf]; omega
            · have hgf : G P T = false := by simpa using hg
              have HS2 : Hid (H1 ++ dhP G T c (M.take (j + 1)) = H2) := hide (by rw [HS, if_neg hg, List.append_nil, hH2])
              rw [hgf] at C68
              clear hg hgf HS hH2
              go_wp2_with (first
                | (go_at_call 68; refine C68.mono ?_; clear C68; rintro e w3 ⟨rfl, H3⟩; have HK := hide ((unhide HB2).trans ((unhide H3).mono (unhide HB2).size))))
              all_goals go_roundw
              case rel => exact ⟨j + 1, by go_num, by omega, hide (by rw [unhide HS2]; exact (unhide HJ).below (unhide HK))⟩
              case measure => simp [intOf]; omega
          · obtain rfl : j = pn := by omega
            have g0 : decide ((j : Int) < (j : Int)) = false := decide_eq_false (by omega)
            have g0' : decide (j < j) = false := decide_eq_false (by omega)
            have ht : M.take j = M := List.take_of_length_le (by have := unhide hpn; omega)
            rw [ht] at HJ
            clear ht
            go_wp2_with fail
            all_goals go_roundw
            case rel => exact ⟨c + 1, by go_num, by omega, hide ((unhide HEnd) _ _ (unhide HJ).ho)⟩
            case measure => simp [intOf]; omega
    · obtain rfl : c = 8 := by omega
      have f1 : decide (((8 : Nat) : Int) < 8) = false := by decide
      obtain ⟨av, cv, hov⟩ := (unhide HE).hits.shape
      subst hov
      go_wp2_with fail
      go_ret
      exact ⟨_, _, _, rfl, hide ⟨(unhide HE).hits, (unhide HE).bel, rfl⟩⟩
end Go.Proofs.Ytjmnddcombepaaa
