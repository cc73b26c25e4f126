/- PostLess: the law. -/
import Derived.Test.YtjmnddcombepaaaPly
namespace Go.Proofs.Ytjmnddcombepaaa
open Go.ChangeShapes Go.WideShapes Go.ChangeAt Go.RowKit Go.Maps Go.Sort
set_option linter.unusedVariables false
set_option linter.unusedSimpArgs false
set_option maxRecDepth 100000
set_option maxHeartbeats 8000000
theorem less_law (w : World) (a ca : Option Addr) (n0 cap ccap : Nat) (I N : Int) (C : List UInt8) (l : List Sv) (hn : n0 = l.length) (hl : SvAt w a l) (hnil : a = none → cap = 0 ∧ l = []) (hbig : l.length * 40 ≤ 140737488351232) (hNm : ∀ x ∈ l, Named w x) (hB : Bnd l) (hC : Bytes w ca (nb C)) (hC2 : C.length ≤ 140737488355328) (hI : -9223372036854775808 ≤ I ∧ I ≤ 9223372036854775807) (hNN : -9223372036854775808 ≤ N ∧ N ≤ 9223372036854775807) :
    Calls Try.prog 6 #[.agg #[.slice a n0 cap, .slice ca C.length ccap, .int .i64 I, .int .i64 N]] w fun e w' => e = .returned (.bool true) ∧ Hid (Below w.heap.size w w') := by
  have ha0 : Below w.heap.size w (w.alloc (.cells #[.slice a n0 cap, .slice ca C.length ccap, .int .i64 I, .int .i64 N] 25)) := (Below.refl _ _).alloc (Nat.le_refl _) _
  have hbx := heap_alloc_new w (.cells #[.slice a n0 cap, .slice ca C.length ccap, .int .i64 I, .int .i64 N] 25)
  have hl0 := hl.below ha0
  have hN0 : ∀ x ∈ l, Named (w.alloc (.cells #[.slice a n0 cap, .slice ca C.length ccap, .int .i64 I, .int .i64 N] 25)) x := fun x hx => (hNm x hx).below ha0
  have hC0 : Bytes (w.alloc (.cells #[.slice a n0 cap, .slice ca C.length ccap, .int .i64 I, .int .i64 N] 25)) ca (nb C) := hC.below ha0
  have hwx : w.heap.size < (w.alloc (.cells #[.slice a n0 cap, .slice ca C.length ccap, .int .i64 I, .int .i64 N] 25)).heap.size := by simp
  have HA0 := hide ha0
  have HBX := hide hbx
  have HC0 := hide hC0
  have HC2 := hide hC2
  have HL0 := hide hl0
  have HN0 := hide hN0
  have HB := hide hB
  have HNIL := hide hnil
  have HN := hide hn
  have HBIG := hide hbig
  obtain ⟨i0, hi0, hz0, hz1, hz2⟩ := info_parts info40
  clear ha0 hl hNm hC hn hB hl0 hN0 hbx hC0 hC2 hnil hbig
  go_enter Try.func6, Try.ntmps6
  go_upto_region 1 with fail
  generalize (w.alloc (.cells #[.slice a n0 cap, .slice ca C.length ccap, .int .i64 I, .int .i64 N] 25)) = w0 at *
  have rz := conv_y w0
  have hzs := yw_size w0
  have hrw : ((yw w0).alloc (.cells #[.int .i64 4, .slice (some ⟨w0.heap.size, 0, none⟩) 1 1, .bool true] 40)).ownsRow (yw w0).heap.size 40 3 (.slice (some ⟨(yw w0).heap.size, 0, none⟩) 1 1) 1 [.int .i64 4, .slice (some ⟨w0.heap.size, 0, none⟩) 1 1, .bool true] := World.ownsRow_lit (yw w0) #[.int .i64 4, .slice (some ⟨w0.heap.size, 0, none⟩) 1 1, .bool true] 1 (Nat.le_refl _) (by decide) rfl
  have hb0 : ((yw w0).alloc (.cells #[.int .i64 4, .slice (some ⟨w0.heap.size, 0, none⟩) 1 1, .bool true] 40)).cell? ⟨w.heap.size, 0, none⟩ = some (.slice a n0 cap) := by
    have hb : Below w0.heap.size w0 ((yw w0).alloc (.cells #[.int .i64 4, .slice (some ⟨w0.heap.size, 0, none⟩) 1 1, .bool true] 40)) := (yw_below w0).alloc (by omega) _
    exact (hb.cell (p := ⟨w.heap.size, 0, none⟩) hwx).trans (cell_blk (unhide HBX) 0)
  have HL2 := hide ((unhide HL0).below ((yw_below w0).alloc (by omega) (.cells #[.int .i64 4, .slice (some ⟨w0.heap.size, 0, none⟩) 1 1, .bool true] 40)))
  have Y : Hid (∀ v4 w4, w4.ownsRow (yw w0).heap.size 40 3 v4 (1 + l.length) ([.int .i64 4, .slice (some ⟨w0.heap.size, 0, none⟩) 1 1, .bool true] ++ l.flatMap seatC) → ((yw w0).alloc (.cells #[.int .i64 4, .slice (some ⟨w0.heap.size, 0, none⟩) 1 1, .bool true] 40)).grownBy w4 (some (yw w0).heap.size) → LAt w0 w4 (yw w0).heap.size v4 (yed w0.heap.size 1 :: l)) := hide (fun v4 w4 h1 h2 => y_laid w0 l (unhide HN0) (unhide HB) v4 w4 h1 h2)
  have C2 : Hid (∀ wr base v, Hid (LAt w0 wr base v (yed w0.heap.size 1 :: l)) → Calls Try.prog 17 #[v] wr fun e w' => ∃ g n cp L, e = .returned (.slice (some ⟨g, 0, none⟩) n cp) ∧ (1 ≤ n ∧ n ≤ 1000) ∧ Hid (SL w0 wr w' g n cp L ∧ 1 ≤ cntC (L.map (·.1)) 4)) := hide (fun wr base v h => seats_y w0 wr base v _ l (unhide h))
  obtain ⟨c, hc⟩ : ∃ c : Int, N % 8 = c := ⟨_, rfl⟩
  have hc8 : 0 ≤ c ∧ c < 8 := by omega
  have CWN : Hid (∀ W, Calls Try.prog 9 #[.int .i64 N, .int .i64 8] W fun e w' => e = .returned (.int .i64 c) ∧ w' = W) := hide (fun W => (within8 W N hNN).mono (fun e w' ⟨e1, e2⟩ => ⟨by rw [e1, hc], e2⟩))
  have FN : Hid (∀ W, Below w0.heap.size w0 W → W.cell? ⟨w.heap.size, 3, none⟩ = some (.int .i64 N)) := hide (fun W h => (h.cell (p := ⟨w.heap.size, 3, none⟩) hwx).trans (cell_blk (unhide HBX) 3))
  clear hc hzs
  go_wp2_with (first
    | (go_at_call 9; with_reducible refine (unhide CWN _).mono ?_; rintro e w5' ⟨rfl, t5⟩; obtain rfl := t5.symm)
    | (go_at_call 17; with_reducible refine (unhide C2 _ _ _ k4).mono ?_; rintro e w5 ⟨g, n, cp, L, rfl, hnb, k5⟩; have fn5 := unhide FN w5 (unhide k5).1.la.bel)
    | (at_builtin; refine wpList_app_seats rfl _ _ rfl (yw w0).heap.size (.slice (some ⟨(yw w0).heap.size, 0, none⟩) 1 1) 1 _ rfl hrw a n0 cap l rfl (unhide HN) (unhide HL2) (unhide HNIL) (by have := unhide HBIG; omega) (by simp) ?_; intro v4 w4 hown' hg4; have k4 := hide (unhide Y v4 w4 hown' hg4); go_frame))
  have HS : Hid (LAt w0 w5 (w4.heap.size + 1) (.slice (some ⟨g, 0, none⟩) n cp) L ∧ (∀ y ∈ L, Near w5.heap.size y) ∧ Unl L ∧ n = L.length ∧ 1 ≤ cntC (L.map (·.1)) 4) := hide (by
    obtain ⟨h1, h2⟩ := unhide k5
    refine ⟨h1.la, fun y hy => ?_, h1.unl, h1.len, h2⟩
    rcases h1.near y hy with h | ⟨b, off, e, hb⟩
    · exact .inl h
    · exact .inr ⟨b, off, e, by have := h1.bel.size; omega⟩)
  generalize w4.heap.size + 1 = base at HS
  have hn1 := hnb.1
  have hn2 := hnb.2
  clear hown' hg4 rz hrw k4 C2 k5 hnb Y HL2 hb0 FN fn5 t5 CWN HL0 HN0 HB HNIL HN HBIG
  go_loopw [5, 6] (fun mv iv wr => ∃ i : Nat, iv = .int .i64 ((i : Nat) : Int) ∧ i ≤ n ∧ Hid (LM w0 w5 wr g n cp base L mv (othersV L c i))) (fun _ iv _ => n - (intOf iv).toNat)
  case atStart =>
    have h := (unhide HS).1
    exact ⟨0, rfl, Nat.zero_le _, hide ⟨Below.refl _ _, h, ⟨h.bel, OwnV.nil _ _, h.bel.size, by simp [othersV], by simp [othersV, Bnd]⟩⟩⟩
  case round =>
    obtain ⟨i, rfl, hi, HM⟩ := hrel
    have hnL : n = L.length := (unhide HS).2.2.2.1
    by_cases hin : i < n
    · have f1 : decide ((i : Int) < (n : Int)) = true := decide_eq_true (by omega)
      have g1 : (0 : Int) ≤ (i : Int) := by omega
      have g2 : (i : Int) < (n : Int) := by omega
      obtain ⟨x, hx⟩ : ∃ x, L[i]? = some x := ⟨_, List.getElem?_eq_getElem (by omega)⟩
      obtain ⟨c0, c1, c2⟩ := (unhide HM).list hx
      by_cases hxc : x.1.1 = c
      · have HE := hide (othersV_skip L c i x hx hxc)
        have f2 : (x.1.1 != c) = false := by simp [hxc]
        rw [hxc] at c0
        have f3 : (c != c) = false := by simp
        clear hx hnL hxc
        go_wp2_with fail
        all_goals go_roundw
        case rel => exact ⟨i + 1, by go_num, by omega, by rw [unhide HE]; exact HM⟩
        case measure => simp [intOf]; omega
      · have HE := hide (othersV_next L c i x hx hxc)
        obtain ⟨M, hM⟩ : ∃ M, othersV L c i = M := ⟨_, rfl⟩
        rw [hM] at HM HE
        have hMs : ∀ y ∈ M, y ∈ L := fun y hy => by rw [← hM] at hy; exact List.mem_of_mem_take (List.mem_filter.1 hy).1
        have hMl : M.length ≤ 1000 := by rw [← hM]; exact Nat.le_trans (List.length_filter_le _ _) (by rw [List.length_take]; omega)
        have f2 : (x.1.1 != c) = true := by simp [hxc]
        have f3 : decide (x.1.1 = c) = false := decide_eq_false hxc
        have hrw : (wr.alloc (.cells #[.int .i64 x.1.1, .slice x.2.1 x.1.2.1.length x.2.2, .bool x.1.2.2] 40)).ownsRow w5.heap.size 40 3 u5 M.length (M.flatMap seatC) := World.ownsRow.alloc (unhide HM).m.own _
        have hsz : w5.heap.size ≤ wr.heap.size := (unhide HM).bel.size
        have HMs := hide hMs
        have HX := hide hx
        have HXC := hide hxc
        clear hM hx hMs hnL hxc
        go_wp2_with (first
          | (at_builtin; refine wpList_append_own _ rfl _ _ 22 rfl _ 40 i0 _ 3 40 Try.underlying22 hi0 hz0 hz1 hz2 rfl (by decide) _ _ _ rfl hrw ⟨wr.heap.size, 0, none⟩ 1 1 [.int .i64 x.1.1, .slice x.2.1 x.1.2.1.length x.2.2, .bool x.1.2.2] rfl rfl (cell_three_new _ _ _ _ _) (by simp [Value.oneCell']) (by unfold maxLen; omega) (by omega) (Nat.le_trans hsz (by simp)) ?_; intro v' w7 hown' hg7 hnil7; have K7 := hide ((unhide HM).push (unhide HMs) (List.mem_of_getElem? (unhide HX)) (unhide HS).2.1 hg7 hown'); go_frame))
        all_goals go_roundw
        case rel => exact ⟨i + 1, by go_num, by omega, by rw [unhide HE]; exact K7⟩
        case measure => simp [intOf]; omega
    · obtain rfl : i = n := by omega
      have f1 : decide ((i : Int) < (i : Int)) = false := decide_eq_false (by omega)
      obtain ⟨-, -, hul, -, hc4⟩ := unhide HS
      have hLw := hide ((unhide HS).1.below (unhide HM).bel)
      have hMw := hide (unhide HM).m
      have huM : Unl (othersV L c i) := hul.sub ((List.filter_sublist).trans (List.take_sublist _ _))
      have hlM : (othersV L c i).length ≤ 1000 := Nat.le_trans (List.length_filter_le _ _) (by rw [List.length_take]; omega)
      have hlL : L.length ≤ 1000 := by omega
      have HoM := hide (othersV_map L c i (by omega))
      have CJ : Hid (∀ wr base v M, Hid (LAt w0 wr base v M) → Unl M → M.length ≤ 1000 → Calls Try.prog 18 #[v] wr fun e w' => ∃ p b, e = .returned (.pointer (some ⟨p, 0, none⟩)) ∧ Hid ((∃ D, PostAt w' p b D (M.map (·.1)).reverse) ∧ wr.heap.size ≤ b ∧ Below wr.heap.size wr w')) := hide (fun wr base v M h h1 h2 => joined_own w0 wr base v M (unhide h) h1 h2)
      obtain ⟨K, hK⟩ : ∃ K, L.map (·.1) = K := ⟨_, rfl⟩
      have HK64 : Hid (K.length ≤ 1000 ∧ ∀ k ∈ K, k.2.1.length ≤ 64) := hide (by
        rw [← hK, List.length_map]
        refine ⟨hlL, fun k hk => ?_⟩
        obtain ⟨x, hx, rfl⟩ := List.mem_map.1 hk
        exact (hul.ok x hx).2)
      have T0 : Hid (∀ w9 w10 w11 p bp q bq o bo, Hid ((∃ D, PostAt w9 p bp D (L.map (·.1)).reverse) ∧ wr.heap.size ≤ bp ∧ Below wr.heap.size wr w9) → Hid ((∃ D, PostAt w10 q bq D (L.map (·.1)).reverse) ∧ w9.heap.size ≤ bq ∧ Below w9.heap.size w9 w10) → Hid ((∃ D, PostAt w11 o bo D ((othersV L c i).map (·.1)).reverse) ∧ w10.heap.size ≤ bo ∧ Below w10.heap.size w10 w11) → T3 w0 wr w11 g i cp base L p bp q bq o bo K K (restC K c)) := hide (fun w9 w10 w11 p bp q bq o bo h1 h2 h3 => by
        obtain ⟨⟨D1, a1⟩, b1, t1⟩ := unhide h1
        obtain ⟨⟨D2, a2⟩, b2, t2⟩ := unhide h2
        obtain ⟨⟨D3, a3⟩, b3, t3⟩ := unhide h3
        have l1 := a1.lt
        have l2 := a2.lt
        have s1 := t1.size
        have s2 := t2.size
        rw [unhide HoM] at a3
        rw [hK] at a1 a2 a3
        exact ⟨unhide hLw, hul, hnL, hn2, t1.trans ((t2.mono t1.size).trans (t3.mono (Nat.le_trans t1.size t2.size))), ⟨D1, _, (a1.below t2).below t3, List.reverse_perm _⟩, ⟨D2, _, a2.below t3, List.reverse_perm _⟩, ⟨D3, _, a3, List.reverse_perm _⟩, b1, by omega, by omega, by omega, by omega, unhide HK64, unhide HK64, Nat.le_trans (List.length_filter_le _ _) (unhide HK64).1⟩)
      rw [hK] at hc4
      obtain ⟨B1, hB1⟩ : ∃ B, cntC K 4 = B := ⟨_, rfl⟩
      obtain ⟨B2, hB2⟩ : ∃ B, cntC (restC K c) 4 = B := ⟨_, rfl⟩
      have hB1b : 1 ≤ B1 ∧ B1 ≤ 1000 := ⟨by omega, by rw [← hB1]; exact Nat.le_trans (cntC_le _ _) (unhide HK64).1⟩
      have hB2b : B2 ≤ 1000 := by rw [← hB2]; exact Nat.le_trans (cntC_le _ _) (Nat.le_trans (List.length_filter_le _ _) (unhide HK64).1)
      have CO : Hid (∀ W p bp q bq o bo, Hid (T3 w0 wr W g i cp base L p bp q bq o bo K K (restC K c)) → Calls Try.prog 13 #[.pointer (some ⟨o, 0, none⟩), .int .i64 4] W fun e w' => e = .returned (.int .i64 ((B2 : Nat) : Int)) ∧ Hid (T3 w0 wr w' g i cp base L p bp q bq o bo K K (restC K c))) := hide (fun W p bp q bq o bo h => ((unhide h).counto 4).mono (fun e w' ⟨e1, e2⟩ => ⟨by rw [e1, hB2], e2⟩))
      have CP : Hid (∀ W p bp q bq o bo, Hid (T3 w0 wr W g i cp base L p bp q bq o bo K K (restC K c)) → Calls Try.prog 13 #[.pointer (some ⟨p, 0, none⟩), .int .i64 4] W fun e w' => e = .returned (.int .i64 ((B1 : Nat) : Int)) ∧ Hid (T3 w0 wr w' g i cp base L p bp q bq o bo K K (restC K c))) := hide (fun W p bp q bq o bo h => ((unhide h).countp 4).mono (fun e w' ⟨e1, e2⟩ => ⟨by rw [e1, hB1], e2⟩))
      have CD : Hid (∀ W p bp q bq o bo, Hid (T3 w0 wr W g i cp base L p bp q bq o bo K K (restC K c)) → Calls Try.prog 24 #[.pointer (some ⟨p, 0, none⟩), .int .i64 c] W fun e w' => e = .returned (.tuple #[]) ∧ Hid (T3 w0 wr w' g i cp base L p bp q bq o bo (restC K c) K (restC K c))) := hide (fun W p bp q bq o bo h => (unhide h).drop c)
      have FB : Hid (∀ W Kp Kq Ko p bp q bq o bo, Hid (T3 w0 wr W g i cp base L p bp q bq o bo Kp Kq Ko) → W.cell? ⟨w.heap.size, 1, none⟩ = some (.slice ca C.length ccap) ∧ (convert 23 9 (.slice ca C.length ccap)).run Try.prog W = .ok (.string (bs C)) W) := hide (fun W Kp Kq Ko p bp q bq o bo h => by
        have hb := (unhide h).l.bel
        exact ⟨(hb.cell (p := ⟨w.heap.size, 1, none⟩) hwx).trans (cell_blk (unhide HBX) 1), conv_back W _ _ _ ((unhide HC0).below hb)⟩)
      have e2 : decide (((B2 : Nat) : Int) + ((B1 : Nat) : Int) < 1) = false := decide_eq_false (by omega)
      have e3 : decide (B2 + B1 < 1) = false := decide_eq_false (by omega)
      have HHK := hide hK
      have HUL := hide hul
      have HNL := hide hnL
      clear hc4 hB1 hB2 hK hul hnL
      rename World => wq
      go_wp2_with (first
        | (go_at_call 18; with_reducible refine (unhide CJ _ _ _ _ k12 huM hlM).mono ?_; rintro e w11 ⟨o, bo, rfl, j11⟩; have k13 := hide (unhide T0 _ _ _ _ _ _ _ _ _ j9 j10 j11))
        | (go_at_call 18; with_reducible refine (unhide CJ _ _ _ _ k11 (unhide HUL) hlL).mono ?_; rintro e w10 ⟨q, bq, rfl, j10⟩; have k12 := hide ((unhide hMw9).below (unhide j10).2.2))
        | (go_at_call 18; with_reducible refine (unhide CJ _ _ _ _ hLw (unhide HUL) hlL).mono ?_; rintro e w9 ⟨p, bp, rfl, j9⟩; have k11 := hide ((unhide hLw).below (unhide j9).2.2); have hMw9 := hide ((unhide hMw).below (unhide j9).2.2))
        | (go_at_call 13; with_reducible refine (unhide CO _ _ _ _ _ _ _ k13).mono ?_; rintro e w12 ⟨rfl, k14⟩)
        | (go_at_call 13; with_reducible refine (unhide CP _ _ _ _ _ _ _ k14).mono ?_; rintro e w13 ⟨rfl, k15⟩)
        | (go_at_call 24; with_reducible refine (unhide CD _ _ _ _ _ _ _ k15).mono ?_; rintro e w14 ⟨rfl, k16⟩))
      clear CO CP CD CJ T0 j9 j10 j11 k11 k12 k13 k14 k15 hLw hMw hMw9 e2 e3 huM hlM HoM HM hB1b hB2b f1
      go_loopw [10, 11, 12, 13] (fun jv mv okv ev wr => ∃ j : Nat, jv = .int .i64 ((j : Nat) : Int) ∧ j ≤ i ∧ Hid (T3 w0 wq wr g i cp base L p bp q bq o bo (restC K c) (lessK K c j) (restC K c))) (fun jv _ _ _ _ => i - (intOf jv).toNat)
      case atStart => exact ⟨0, rfl, Nat.zero_le _, by rw [lessK_zero]; exact k16⟩
      case round =>
        clear k16
        obtain ⟨j, rfl, hj, HK⟩ := hrel
        by_cases hji : j < i
        · have f1 : decide ((j : Int) < (i : Int)) = true := decide_eq_true (by omega)
          have g1 : (0 : Int) ≤ (j : Int) := by omega
          have g2 : (j : Int) < (i : Int) := by omega
          obtain ⟨y, hy⟩ : ∃ y, L[j]? = some y := ⟨_, List.getElem?_eq_getElem (by have := unhide HNL; omega)⟩
          have hyk : K[j]? = some y.1 := by rw [← unhide HHK, List.getElem?_map, hy]; rfl
          obtain ⟨c0, c1, c2, c3⟩ := (unhide HK).list hy
          by_cases hyc : y.1.1 = c
          · have CL : Hid (∀ W, Hid (T3 w0 wq W g i cp base L p bp q bq o bo (restC K c) (lessK K c j) (restC K c)) → Calls Try.prog 15 #[.pointer (some ⟨q, 0, none⟩), .int .i64 c, .string (bs y.1.2.1), .bool y.1.2.2] W fun e w' => (∃ m : Int, e = .returned (.tuple #[.int .i64 m, .bool true, .int .i64 0])) ∧ Hid (T3 w0 wq w' g i cp base L p bp q bq o bo (restC K c) (lessK K c (j + 1)) (restC K c)) ∧ (w'.cell? ⟨g, j * 3 + 1, none⟩ = some (.slice y.2.1 y.1.2.1.length y.2.2) ∧ w'.cell? ⟨g, j * 3 + 2, none⟩ = some (.bool y.1.2.2) ∧ (convert 23 9 (.slice y.2.1 y.1.2.1.length y.2.2)).run Try.prog w' = .ok (.string (bs y.1.2.1)) w')) := hide (fun W h => by
              have hu := unhide HUL
              obtain ⟨h0, h00⟩ := lessK_next K c j y.1 hyk hyc
              have h1 := (unhide h).leave y.1 (hu.ok y (List.mem_of_getElem? hy)) h0
              rw [h00, hyc] at h1
              refine h1.mono (fun e w' ⟨e1, e2⟩ => ?_)
              obtain ⟨t0, t1, t2, t3⟩ := (unhide e2).list hy
              exact ⟨e1, e2, t1, t2, t3⟩)
            have HKd := hide ((unhide HK).below (Below.refl _ _).drew)
            have R1 := ((unhide HKd).list hy).2.2.2
            rw [hyc] at c0
            clear hyk hyc hy
            go_wp2_with fail
            go_region_held3 (fun w' => w'.cell? ⟨g, j * 3 + 1, none⟩ = some (.slice y.2.1 y.1.2.1.length y.2.2) ∧ w'.cell? ⟨g, j * 3 + 2, none⟩ = some (.bool y.1.2.2) ∧ (convert 23 9 (.slice y.2.1 y.1.2.1.length y.2.2)).run Try.prog w' = .ok (.string (bs y.1.2.1)) w') (first | exact z2 | go_keep) (first | (go_at_call 15; with_reducible refine (unhide CL _ HKd).mono ?_; rintro e w2 ⟨⟨mm, rfl⟩, k2, z2⟩))
            clear z2 R1 c0 c1 c2 c3
            go_wp2_with (first
              | (go_at_call 12; with_reducible refine (num_any _ _).mono ?_; rintro e wn ⟨rfl, hn⟩; obtain rfl := hn.symm))
            all_goals go_roundw
            case rel => exact ⟨j + 1, by go_num, by omega, k2⟩
            case measure => simp [intOf]; omega
          · have f2 : decide (y.1.1 = c) = false := decide_eq_false hyc
            have f3 : (y.1.1 == c) = false := by simpa using hyc
            have HE := hide (lessK_skip K c j y.1 hyk hyc)
            clear hyk hy
            go_wp2_with fail
            all_goals go_roundw
            case rel => exact ⟨j + 1, by go_num, by omega, by rw [unhide HE]; exact HK⟩
            case measure => simp [intOf]; omega
        · obtain rfl : j = i := by omega
          have f1 : decide ((j : Int) < (j : Int)) = false := decide_eq_false (by omega)
          have hKj : K.length ≤ j := by rw [← unhide HHK, List.length_map]; exact Nat.le_of_eq (unhide HNL).symm
          rw [lessK_all K c j hKj] at HK
          obtain ⟨b1, b2⟩ := unhide FB _ _ _ _ _ _ _ _ _ _ HK
          have CAP : Hid (∀ W, Hid (T3 w0 wq W g j cp base L p bp q bq o bo (restC K c) (restC K c) (restC K c)) → Calls Try.prog 23 #[.pointer (some ⟨p, 0, none⟩), .pointer (some ⟨o, 0, none⟩), .slice (some ⟨g, 0, none⟩) j cp, .string (bs C)] W fun e w' => e = .returned (.bool true) ∧ Hid (T3 w0 wq w' g j cp base L p bp q bq o bo (restC K c) (restC K c) (restC K c))) := hide (fun W h => (unhide h).alikep (.refl _) C (unhide HC2))
          have CAQ : Hid (∀ W, Hid (T3 w0 wq W g j cp base L p bp q bq o bo (restC K c) (restC K c) (restC K c)) → Calls Try.prog 23 #[.pointer (some ⟨q, 0, none⟩), .pointer (some ⟨o, 0, none⟩), .slice (some ⟨g, 0, none⟩) j cp, .string (bs C)] W fun e w' => e = .returned (.bool true) ∧ Hid (T3 w0 wq w' g j cp base L p bp q bq o bo (restC K c) (restC K c) (restC K c))) := hide (fun W h => (unhide h).alikeq (.refl _) C (unhide HC2))
          clear hKj
          go_wp2_with (first
            | (go_at_call 23; with_reducible refine (unhide CAQ _ k20).mono ?_; rintro e w21 ⟨rfl, k21⟩)
            | (go_at_call 23; with_reducible refine (unhide CAP _ HK).mono ?_; rintro e w20 ⟨rfl, k20⟩; obtain ⟨d1, d2⟩ := unhide FB _ _ _ _ _ _ _ _ _ _ k20))
          go_ret
          exact ⟨rfl, hide ((unhide HA0).trans ((unhide k21).l.bel.mono (unhide HA0).size))⟩
end Go.Proofs.Ytjmnddcombepaaa
