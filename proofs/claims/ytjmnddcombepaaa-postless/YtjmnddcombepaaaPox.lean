/- PostOrder: the law. -/
import Derived.Test.YtjmnddcombepaaaPoy
namespace Go.Proofs.Ytjmnddcombepaaa
open Go.ChangeShapes Go.WideShapes Go.ChangeAt Go.RowKit Go.Maps Go.Sort
set_option linter.unusedVariables false
set_option linter.unusedSimpArgs false
set_option maxRecDepth 100000
set_option maxHeartbeats 8000000
theorem withinN (w : World) (n : Int) (m : Nat) (hm : 1 ≤ m ∧ m ≤ 1000) (hn : -9223372036854775808 ≤ n ∧ n ≤ 9223372036854775807) : Calls Try.prog 9 #[.int .i64 n, .int .i64 (m : Nat)] w fun e w' => e = .returned (.int .i64 (n % (m : Nat))) ∧ w' = w := by
  obtain ⟨M, hM⟩ : ∃ M : Int, M = (m : Nat) := ⟨_, rfl⟩
  rw [← hM]
  have hM1 : 1 ≤ M ∧ M ≤ 1000 := by omega
  clear hM hm
  have h2 : -M ≤ n.tmod M ∧ n.tmod M ≤ M := by
    have h3 := Int.tmod_lt_of_pos n (show (0 : Int) < M by omega)
    have h4 : -M < n.tmod M := by
      rcases Int.le_total 0 n with h | h
      · have := Int.tmod_nonneg M h; omega
      · have h3 := Int.tmod_lt_of_pos (-n) (show (0 : Int) < M by omega)
        rw [Int.neg_tmod] at h3
        omega
    omega
  have H : Hid ((n.tmod M + M).tmod M = n % M) := hide (mod_fact n M (by omega))
  have hw : wrap64 (n.tmod M + M) = n.tmod M + M := by unfold wrap64; omega
  have hw1 : wrap64 (n.tmod M) = n.tmod M := by unfold wrap64; omega
  have hw2 : wrap64 ((n.tmod M + M).tmod M) = (n.tmod M + M).tmod M := by
    rw [unhide H]
    have := Int.emod_nonneg n (show M ≠ 0 by omega)
    have := Int.emod_lt_of_pos n (show 0 < M by omega)
    unfold wrap64; omega
  have h0 : ¬ M = 0 := by omega
  have hd : (M == 0) = false := by simpa using h0
  have hd1 : ¬ M = -1 := by omega
  have hd2 : (M == -1) = false := by simpa using hd1
  have H2 : Hid ((n.tmod M + M) % M = n % M) := hide (by
    have h := unhide H
    rwa [Int.tmod_eq_emod_of_nonneg (by omega)] at h)
  go_enter Try.func9, Try.ntmps9
  go_wp2
  go_ret
  exact ⟨congrArg (fun z => Ending.returned (.int .i64 z)) (unhide H2), rfl⟩
/-- behind loop 1: the list m -/
structure MAt (w0 w6 wr : World) (g n cp base : Nat) (L : List Sv) (p bp : Nat) (mv : Value) (M : List Sv) : Prop where
  bel : Below w6.heap.size w6 wr
  ol : OL w0 w6 g n cp base L p bp
  m : LAt w0 wr w6.heap.size mv M
theorem MAt.l {w0 w6 wr : World} {g n cp base : Nat} {L : List Sv} {p bp : Nat} {mv : Value} {M : List Sv} (h : MAt w0 w6 wr g n cp base L p bp mv M) : OL w0 wr g n cp base L p bp := h.ol.below h.bel
theorem MAt.push {w0 w6 wr w' : World} {g n cp base : Nat} {L : List Sv} {p bp : Nat} {mv v' : Value} {M : List Sv} {o : Obj} {x : Sv} (h : MAt w0 w6 wr g n cp base L p bp mv M) (hM : ∀ y ∈ M, y ∈ L) (hx : x ∈ L) (hN : ∀ y ∈ L, Near w6.heap.size y) (hg : (wr.alloc o).grownBy w' mv.ownBlock) (ho : w'.ownsRow w6.heap.size 40 3 v' (M.length + 1) (M.flatMap seatC ++ seatC x)) : MAt w0 w6 w' g n cp base L p bp v' (M ++ [x]) := by
  have ha : Below w6.heap.size w6 (wr.alloc o) := h.bel.alloc h.bel.size _
  refine ⟨ha.grown hg ha.size (fun k hk => (h.m.own.ge k hk).1), h.ol, h.m.push hg ho (h.l.la.nam x hx) (h.ol.la.bnd x hx) (fun y hy gg hgg => ?_)⟩
  have hge := (h.m.own.ge gg hgg).1
  have hyL : y ∈ L := by
    rcases hy with hy | rfl
    · exact hM y hy
    · exact hx
  rcases hN y hyL with h0 | ⟨b, off, e, hb⟩
  · exact .inl h0
  · exact .inr ⟨b, off, e, by omega⟩
theorem ne_push {P : List Sv → Prop} {U : List Sv} {z : Sv} (h : P (U ++ [z])) : P (U ++ [z]) ∧ U ++ [z] ≠ [] := ⟨h, by simp⟩
theorem order_law (w : World) (a ca : Option Addr) (n0 cap ccap : Nat) (I N : Int) (C : List UInt8) (l : List Sv) (hn : n0 = l.length) (hl : SvAt w a l) (hNm : ∀ x ∈ l, Named w x) (hB : Bnd l) (hC : Bytes w ca (nb C)) (hC2 : C.length ≤ 140737488355328) (hI : -9223372036854775808 ≤ I ∧ I ≤ 9223372036854775807) (hNN : -9223372036854775808 ≤ N ∧ N ≤ 9223372036854775807) :
    Calls Try.prog 5 #[.agg #[.slice a n0 cap, .slice ca C.length ccap, .int .i64 I, .int .i64 N]] w fun e w' => e = .returned (.bool true) ∧ Hid (Below w.heap.size w w') := by
  have ha0 : Below w.heap.size w (w.alloc (.cells #[.slice a n0 cap, .slice ca C.length ccap, .int .i64 I, .int .i64 N] 25)) := (Below.refl _ _).alloc (Nat.le_refl _) _
  have hbx := heap_alloc_new w (.cells #[.slice a n0 cap, .slice ca C.length ccap, .int .i64 I, .int .i64 N] 25)
  have hbc : (w.alloc (.cells #[.slice a n0 cap, .slice ca C.length ccap, .int .i64 I, .int .i64 N] 25)).cell? ⟨w.heap.size, 0, none⟩ = some (.slice a n0 cap) := cell_blk hbx 0
  have hl0 : SvAt (w.alloc (.cells #[.slice a n0 cap, .slice ca C.length ccap, .int .i64 I, .int .i64 N] 25)) a l := by
    rcases hl with h | ⟨b, off, e, hb, hc⟩
    · exact .inl h
    · refine .inr ⟨b, off, e, Nat.lt_of_lt_of_le hb ha0.size, fun i x hx => ?_⟩
      obtain ⟨h0, h1, h2⟩ := hc i x hx
      exact ⟨(ha0.cell (p := ⟨b, off + i * 3, none⟩) hb).trans h0, (ha0.cell (p := ⟨b, off + i * 3 + 1, none⟩) hb).trans h1, (ha0.cell (p := ⟨b, off + i * 3 + 2, none⟩) hb).trans h2⟩
  have hN0 : ∀ x ∈ l, Named (w.alloc (.cells #[.slice a n0 cap, .slice ca C.length ccap, .int .i64 I, .int .i64 N] 25)) x := fun x hx => (hNm x hx).below ha0
  have hC0 : Bytes (w.alloc (.cells #[.slice a n0 cap, .slice ca C.length ccap, .int .i64 I, .int .i64 N] 25)) ca (nb C) := hC.below ha0
  have HA0 := hide ha0
  have C1 := hide (seats_in _ _ a n0 cap l (Below.refl _ _) hl0 hn hN0 hB)
  have HL1 : (unV (l.take 1000)).length ≤ 1000 := Nat.le_trans (unV_len _) (by rw [List.length_take]; omega)
  generalize unV (l.take 1000) = U at C1 HL1
  have C2 : Hid (∀ W0 wr base v L, Hid (LAt W0 wr base v L ∧ L ≠ []) → Calls Try.prog 17 #[v] wr fun e w' => ∃ g n cp L', e = .returned (.slice (some ⟨g, 0, none⟩) n cp) ∧ (1 ≤ n ∧ n ≤ 1000) ∧ Hid (SL W0 wr w' g n cp L')) := hide (fun W0 wr base v L h => seats_some W0 wr base v L (unhide h).1 (unhide h).2)
  have C3 : Hid (∀ W0 wr base v L, Hid (LAt W0 wr base v L) → Unl L → L.length ≤ 1000 → Calls Try.prog 18 #[v] wr fun e w' => ∃ p b, e = .returned (.pointer (some ⟨p, 0, none⟩)) ∧ Hid ((∃ D, PostAt w' p b D (L.map (·.1)).reverse) ∧ wr.heap.size ≤ b ∧ Below wr.heap.size wr w')) := hide (fun W0 wr base v L h h1 h2 => joined_own W0 wr base v L (unhide h) h1 h2)
  obtain ⟨i0, hi0, hz0, hz1, hz2⟩ := info_parts info40
  have HBX := hide hbx
  have HC0 := hide hC0
  have HC2 := hide hC2
  clear ha0 hl hNm hC hn hB hl0 hN0 hbx hC0 hC2
  go_enter Try.func5, Try.ntmps5
  go_wp2_with fail
  generalize (w.alloc (.cells #[.slice a n0 cap, .slice ca C.length ccap, .int .i64 I, .int .i64 N] 25)) = w0 at *
  have Z : Hid (∀ w1 v1, Hid (LAt w0 w1 (w0.heap.size + 1) v1 U ∧ ∀ x ∈ U, Near w0.heap.size x) → Hid (Below w0.heap.size w0 w1) → _) := hide (fun w1 v1 h1 h2 => z_laid w0 w0 w1 v1 U (unhide h1).1 (unhide h1).2 (unhide h2))
  go_wp2_with (first
    | (go_at_call 18; with_reducible refine (unhide C3 _ _ _ _ _ k6 u6 n6).mono ?_; rintro e w6 ⟨p, bp, rfl, k7⟩)
    | (go_at_call 17; with_reducible refine (unhide C2 _ _ _ _ _ k4).mono ?_; rintro e w5 ⟨g, n, cp, L, rfl, hnb, k5⟩; have k6 := hide (unhide k5).la; have u6 := (unhide k5).unl; have n6 : L.length ≤ 1000 := by (have := (unhide k5).len; omega))
    | (go_at_call 17; with_reducible refine (unhide C1).mono ?_; rintro e w1 ⟨v1, rfl, k1, b1⟩; have rz := conv_self w1; obtain ⟨hrw, hsz, K4⟩ := unhide Z w1 v1 k1 b1)
    | (at_builtin; refine wpList_append_own _ rfl _ _ 22 rfl _ 40 i0 _ 3 40 Try.underlying22 hi0 hz0 hz1 hz2 rfl (by decide) _ _ _ rfl hrw ⟨(zw w1).heap.size, 0, none⟩ 1 1 [.int .i64 1, .slice (some ⟨w1.heap.size, 0, none⟩) 1 1, .bool false] rfl rfl (cell_three_new _ _ _ _ _) (by simp [Value.oneCell']) (by unfold maxLen; omega) (by omega) (Nat.le_trans hsz (by simp)) ?_; intro v4 w4 hown' hg4 hnil4; have k4 := hide (ne_push (P := fun M => LAt w0 w4 (w0.heap.size + 1) v4 M) (unhide K4 v4 w4 hown' hg4)); go_frame))
  have HO : Hid (OL w0 w6 g n cp (w4.heap.size + 1) L p bp ∧ ∀ y ∈ L, Near w6.heap.size y) := hide (by
    have h1 := unhide k5
    obtain ⟨h2, h3, h4⟩ := unhide k7
    refine ⟨⟨h1.la.below h4, h2, h1.unl, h1.len, hnb.2⟩, fun y hy => ?_⟩
    rcases h1.near y hy with h | ⟨b, off, e, hb⟩
    · exact .inl h
    · exact .inr ⟨b, off, e, by have := h1.bel.size; have := h4.size; omega⟩)
  generalize w4.heap.size + 1 = base at HO
  clear hown' hg4 hnil4 rz hrw hsz k4 K4 k1 b1 Z C1 C2 k5 k6 k7 HL1 u6 n6 hbc
  have hn1 := hnb.1
  have hn2 := hnb.2
  clear hnb
  go_loopw [5, 6] (fun mv iv wr => ∃ k : Nat, iv = .int .i64 (((k : Nat) : Int) - 1) ∧ k ≤ n ∧ Hid (MAt w0 w6 wr g n cp base L p bp mv (L.reverse.take (n - k)))) (fun _ iv _ => (intOf iv + 1).toNat)
  case atStart =>
    have h := (unhide HO).1
    exact ⟨n, rfl, Nat.le_refl _, hide ⟨Below.refl _ _, h, by rw [Nat.sub_self, List.take_zero]; exact ⟨h.la.bel, OwnV.nil _ _, h.la.bel.size, by simp, by simp [Bnd]⟩⟩⟩
  case round =>
    obtain ⟨k, rfl, hk, HM⟩ := hrel
    cases k with
    | succ k =>
      rw [show ((k + 1 : Nat) : Int) - 1 = ((k : Nat) : Int) by omega]
      obtain ⟨M, hM⟩ : ∃ M, L.reverse.take (n - (k + 1)) = M := ⟨_, rfl⟩
      rw [hM] at HM
      have hnL : n = L.length := (unhide HO).1.len
      obtain ⟨x, hx⟩ : ∃ x, L[k]? = some x := ⟨_, List.getElem?_eq_getElem (by omega)⟩
      have hnext : L.reverse.take (n - k) = M ++ [x] := by
        rw [show n - k = (n - (k + 1)) + 1 by omega, List.take_add_one, hM, List.getElem?_reverse (by omega), show L.length - 1 - (n - (k + 1)) = k by omega, hx]
        rfl
      have hMl : M.length ≤ 1000 := by rw [← hM, List.length_take]; omega
      have hMs : ∀ y ∈ M, y ∈ L := fun y hy => List.mem_reverse.1 (List.mem_of_mem_take (by rw [hM]; exact hy))
      obtain ⟨c0, c1, c2⟩ := (unhide HM).l.list hx
      have f1 : decide ((0 : Int) ≤ (k : Int)) = true := decide_eq_true (by omega)
      have f2 : decide ((k : Int) ≥ (0 : Int)) = true := decide_eq_true (by omega)
      have g1 : (0 : Int) ≤ (k : Int) := by omega
      have g2 : (k : Int) < (n : Int) := by omega
      have hrw : (wr.alloc (.cells #[.int .i64 x.1.1, .slice x.2.1 x.1.2.1.length x.2.2, .bool x.1.2.2] 40)).ownsRow w6.heap.size 40 3 u5 M.length (M.flatMap seatC) := World.ownsRow.alloc (unhide HM).m.own _
      have hsz : w6.heap.size ≤ wr.heap.size := (unhide HM).bel.size
      have HMs := hide hMs
      have HX := hide hx
      have HNX := hide hnext
      have HNL := hide hnL
      clear hM hx hMs hnext hnL
      go_wp2_with (first
        | (at_builtin; refine wpList_append_own _ rfl _ _ 22 rfl _ 40 i0 _ 3 40 Try.underlying22 hi0 hz0 hz1 hz2 rfl (by decide) _ _ _ rfl hrw ⟨wr.heap.size, 0, none⟩ 1 1 [.int .i64 x.1.1, .slice x.2.1 x.1.2.1.length x.2.2, .bool x.1.2.2] rfl rfl (cell_three_new _ _ _ _ _) (by simp [Value.oneCell']) (by unfold maxLen; omega) (by omega) (Nat.le_trans hsz (by simp)) ?_; intro v' w7 hown' hg7 hnil7; have K7 := hide ((unhide HM).push (unhide HMs) (List.mem_of_getElem? (unhide HX)) (unhide HO).2 hg7 hown'); go_frame))
      all_goals go_roundw
      case rel => exact ⟨k, rfl, by omega, hide (by rw [unhide HNX]; exact unhide K7)⟩
      case measure => simp [intOf]
    | zero =>
      rw [show ((0 : Nat) : Int) - 1 = -1 from rfl]
      have hnL : n = L.length := (unhide HO).1.len
      have hul := (unhide HO).1.unl
      have HM2 : Hid (LAt w0 wr w6.heap.size u5 L.reverse) := hide (by
        have h := (unhide HM).m
        rwa [Nat.sub_zero, List.take_of_length_le (by rw [List.length_reverse]; omega)] at h)
      have HQ : Hid (∀ w9 q bq, Hid ((∃ D, PostAt w9 q bq D (L.reverse.map (·.1)).reverse) ∧ wr.heap.size ≤ bq ∧ Below wr.heap.size wr w9) → OQ w0 w6 w9 g n cp base L p bp q bq (L.map (·.1))) := hide (fun w9 q bq h => by
        obtain ⟨⟨D, h1⟩, h2, h3⟩ := unhide h
        exact ⟨(unhide HO).1, (unhide HM).bel.trans (h3.mono (unhide HM).bel.size), Nat.le_trans (unhide HM).bel.size h2, ⟨D, _, h1, (List.reverse_perm _).trans ((List.reverse_perm L).map _)⟩, by rw [List.length_map]; omega⟩)
      have hul2 : Unl L.reverse := hul.perm (List.reverse_perm L).symm
      have hll2 : L.reverse.length ≤ 1000 := by rw [List.length_reverse]; omega
      obtain ⟨x0, hx0⟩ : ∃ x, L[0]? = some x := ⟨_, List.getElem?_eq_getElem (by omega)⟩
      obtain ⟨kx, hkx⟩ : ∃ kx : Nat, I % (n : Nat) = (kx : Nat) := ⟨(I % (n : Nat)).toNat, by have := Int.emod_nonneg I (show ((n : Nat) : Int) ≠ 0 by omega); omega⟩
      have hkn : kx < n := by have := Int.emod_lt_of_pos I (show (0 : Int) < (n : Nat) by omega); omega
      obtain ⟨x, hx⟩ : ∃ x, L[kx]? = some x := ⟨_, List.getElem?_eq_getElem (by omega)⟩
      obtain ⟨c, hc⟩ : ∃ c : Int, N % 8 = c := ⟨_, rfl⟩
      have hc8 : 0 ≤ c ∧ c < 8 := by omega
      have hxm : x.1 ∈ L.map (·.1) := List.mem_map_of_mem (List.mem_of_getElem? hx)
      have hxm0 : x0.1 ∈ L.map (·.1) := List.mem_map_of_mem (List.mem_of_getElem? hx0)
      have hB1 : ∀ y : Key, y ∈ L.map (·.1) → 1 ≤ cntC (L.map (·.1)) y.1 := fun y hy => by
        unfold cntC
        exact List.length_pos_of_mem (List.mem_filter.2 ⟨hy, by simp⟩)
      have hB64 : ∀ d, cntC (L.map (·.1)) d ≤ 64 := fun d => hul.cnt d
      obtain ⟨B0, hB0⟩ : ∃ B0, cntC (L.map (·.1)) x0.1.1 = B0 := ⟨_, rfl⟩
      obtain ⟨B, hB⟩ : ∃ B : Int, ((cntC (L.map (·.1)) x.1.1 : Nat) : Int) = B := ⟨_, rfl⟩
      have hB0b : 1 ≤ B0 ∧ B0 ≤ 64 := ⟨by rw [← hB0]; exact hB1 _ hxm0, by rw [← hB0]; exact hB64 _⟩
      have hBb : 1 ≤ B ∧ B ≤ 64 := ⟨by rw [← hB]; have := hB1 _ hxm; omega, by rw [← hB]; have := hB64 x.1.1; omega⟩
      have CP0 : Hid (∀ q bq W K, Hid (OQ w0 w6 W g n cp base L p bp q bq K) → Calls Try.prog 13 #[.pointer (some ⟨p, 0, none⟩), .int .i64 x0.1.1] W fun e w' => e = .returned (.int .i64 ((B0 : Nat) : Int)) ∧ Hid (OQ w0 w6 w' g n cp base L p bp q bq K)) := hide (fun q bq W K h => ((unhide h).l.count x0.1.1).mono (fun e w' ⟨e1, e2⟩ => ⟨by rw [e1, hB0], hide ((unhide h).below (unhide e2))⟩))
      have CPX : Hid (∀ q bq W K X, Hid (OX w0 w6 W g n cp base L p bp q bq K X x) → Calls Try.prog 13 #[.pointer (some ⟨p, 0, none⟩), .int .i64 x.1.1] W fun e w' => e = .returned (.int .i64 B) ∧ Hid (OX w0 w6 w' g n cp base L p bp q bq K X x)) := hide (fun q bq W K X h => ((unhide h).oq.l.count x.1.1).mono (fun e w' ⟨e1, e2⟩ => ⟨by rw [e1, hB], hide ((unhide h).below (unhide e2))⟩))
      have CA : Hid (∀ q bq W K, Hid (OQ w0 w6 W g n cp base L p bp q bq K) → K.Perm (L.map (·.1)) → Calls Try.prog 23 #[.pointer (some ⟨p, 0, none⟩), .pointer (some ⟨q, 0, none⟩), .slice (some ⟨g, 0, none⟩) n cp, .string (bs C)] W fun e w' => e = .returned (.bool true) ∧ Hid (Below W.heap.size W w')) := hide (fun q bq W K h hp => (unhide h).alike hp C (unhide HC2))
      have CWI : Hid (∀ W, Calls Try.prog 9 #[.int .i64 I, .int .i64 (n : Nat)] W fun e w' => e = .returned (.int .i64 ((kx : Nat) : Int)) ∧ w' = W) := hide (fun W => (withinN W I n ⟨hn1, hn2⟩ hI).mono (fun e w' ⟨e1, e2⟩ => ⟨by rw [e1, hkx], e2⟩))
      have CWN : Hid (∀ W, Calls Try.prog 9 #[.int .i64 N, .int .i64 8] W fun e w' => e = .returned (.int .i64 c) ∧ w' = W) := hide (fun W => (within8 W N hNN).mono (fun e w' ⟨e1, e2⟩ => ⟨by rw [e1, hc], e2⟩))
      have hnd : (L.map (·.1)).Nodup := hul.nodup
      have hxe : x.1 ∉ (L.map (·.1)).erase x.1 := fun h => (List.Nodup.mem_erase_iff hnd).1 h |>.1 rfl
      have hpx : (x.1 :: (L.map (·.1)).erase x.1).Perm (L.map (·.1)) := (List.perm_cons_erase hxm).symm
      have hce : ((cntC ((L.map (·.1)).erase x.1) x.1.1 : Nat) : Int) = B - 1 := by
        have h1 := cntC_perm hpx x.1.1
        have h2 : cntC (x.1 :: (L.map (·.1)).erase x.1) x.1.1 = cntC ((L.map (·.1)).erase x.1) x.1.1 + 1 := by simp [cntC]
        omega
      have hce1 : ((cntC ((L.map (·.1)).erase x.1) x.1.1 + 1 : Nat) : Int) = B := by omega
      have hKl : ((L.map (·.1)).erase x.1).length < 1000 := by rw [List.length_erase_of_mem hxm, List.length_map]; omega
      have CL1 : Hid (∀ q bq W X, Hid (OX w0 w6 W g n cp base L p bp q bq (L.map (·.1)) X x) → Calls Try.prog 15 #[.pointer (some ⟨q, 0, none⟩), .int .i64 x.1.1, .string (bs x.1.2.1), .bool x.1.2.2] W fun e w' => e = .returned (.tuple #[.int .i64 (B - 1), .bool true, .int .i64 0]) ∧ Hid (OX w0 w6 w' g n cp base L p bp q bq ((L.map (·.1)).erase x.1) X x)) := hide (fun q bq W X h => (unhide h).leave.mono (fun e w' ⟨e1, e2⟩ => ⟨by rw [e1, hce, decide_eq_true hxm], e2⟩))
      have CL2 : Hid (∀ q bq W X, Hid (OX w0 w6 W g n cp base L p bp q bq ((L.map (·.1)).erase x.1) X x) → Calls Try.prog 15 #[.pointer (some ⟨q, 0, none⟩), .int .i64 x.1.1, .string (bs x.1.2.1), .bool x.1.2.2] W fun e w' => e = .returned (.tuple #[.int .i64 (B - 1), .bool false, .int .i64 0]) ∧ Hid (OX w0 w6 w' g n cp base L p bp q bq ((L.map (·.1)).erase x.1) X x)) := hide (fun q bq W X h => (unhide h).leave.mono (fun e w' ⟨e1, e2⟩ => by
        rw [List.erase_of_not_mem hxe] at e1 e2
        exact ⟨by rw [e1, hce, decide_eq_false hxe], e2⟩))
      have CJX : Hid (∀ q bq W X, Hid (OX w0 w6 W g n cp base L p bp q bq ((L.map (·.1)).erase x.1) X x) → Calls Try.prog 10 #[.pointer (some ⟨q, 0, none⟩), .int .i64 x.1.1, .string (bs x.1.2.1), .bool x.1.2.2] W fun e w' => e = .returned (.tuple #[.int .i64 B, .bool true, .int .i64 0]) ∧ Hid (OX w0 w6 w' g n cp base L p bp q bq (x.1 :: (L.map (·.1)).erase x.1) X x)) := hide (fun q bq W X h => ((unhide h).join hxe (by have := hBb.2; omega) hKl).mono (fun e w' ⟨e1, e2⟩ => ⟨by rw [e1, hce1], e2⟩))
      have CD : Hid (∀ q bq W K, Hid (OQ w0 w6 W g n cp base L p bp q bq K) → K.Perm (L.map (·.1)) → Calls Try.prog 24 #[.pointer (some ⟨q, 0, none⟩), .int .i64 c] W fun e w' => e = .returned (.tuple #[]) ∧ Hid (OQ w0 w6 w' g n cp base L p bp q bq (restC (L.map (·.1)) c))) := hide (fun q bq W K h hp => ((unhide h).drop c).mono (fun e w' ⟨e1, e2⟩ => ⟨e1, hide ((unhide e2).1.perm (hp.filter _))⟩))
      have CQ0 : Hid (∀ q bq W, Hid (OQ w0 w6 W g n cp base L p bp q bq (restC (L.map (·.1)) c)) → Calls Try.prog 13 #[.pointer (some ⟨q, 0, none⟩), .int .i64 c] W fun e w' => e = .returned (.int .i64 0) ∧ Hid (OQ w0 w6 w' g n cp base L p bp q bq (restC (L.map (·.1)) c))) := hide (fun q bq W h => ((unhide h).count c).mono (fun e w' ⟨e1, e2⟩ => ⟨by rw [e1, rest_cnt]; rfl, hide ((unhide h).below (unhide e2))⟩))
      have CNM : Hid (∀ q bq W b, Hid (OQ w0 w6 W g n cp base L p bp q bq (restC (L.map (·.1)) c)) → Calls Try.prog 25 #[.pointer (some ⟨q, 0, none⟩), .int .i64 c, .bool b] W fun e w' => ∃ (a : Option Addr) (cap : Nat), e = .returned (.slice a 0 cap) ∧ Hid (OQ w0 w6 w' g n cp base L p bp q bq (restC (L.map (·.1)) c))) := hide (fun q bq W b h => ((unhide h).names b (fun k hk => by
        obtain ⟨y, hy, rfl⟩ := List.mem_map.1 hk
        exact (hul.ok y hy).2)).mono (fun e w' ⟨a, cap, e1, e2⟩ => ⟨a, cap, e1, hide ((unhide h).below (unhide e2))⟩))
      have FB : Hid (∀ q bq W K, Hid (OQ w0 w6 W g n cp base L p bp q bq K) → W.cell? ⟨w.heap.size, 1, none⟩ = some (.slice ca C.length ccap) ∧ W.cell? ⟨w.heap.size, 2, none⟩ = some (.int .i64 I) ∧ W.cell? ⟨w.heap.size, 3, none⟩ = some (.int .i64 N) ∧ (convert 23 9 (.slice ca C.length ccap)).run Try.prog W = .ok (.string (bs C)) W) := hide (fun q bq W K h => by
        obtain ⟨h1, h2, h3⟩ := (unhide h).l.box (unhide HBX)
        exact ⟨h1, h2, h3, (unhide h).l.chan (unhide HC0)⟩)
      have F0 : Hid (∀ q bq W K, Hid (OQ w0 w6 W g n cp base L p bp q bq K) → W.cell? ⟨g, 0, none⟩ = some (.int .i64 x0.1.1)) := hide (fun q bq W K h => by
        have := ((unhide h).l.list hx0).1
        simpa using this)
      have FX : Hid (∀ q bq W K, Hid (OQ w0 w6 W g n cp base L p bp q bq K) → W.cell? ⟨g, kx * 3, none⟩ = some (.int .i64 x.1.1) ∧ W.cell? ⟨g, kx * 3 + 1, none⟩ = some (.slice x.2.1 x.1.2.1.length x.2.2) ∧ W.cell? ⟨g, kx * 3 + 2, none⟩ = some (.bool x.1.2.2) ∧ Hid (OX w0 w6 (W.alloc (.cells #[.int .i64 x.1.1, .slice x.2.1 x.1.2.1.length x.2.2, .bool x.1.2.2] 40)) g n cp base L p bp q bq K W.heap.size x)) := hide (fun q bq W K h => by
        obtain ⟨h1, h2, h3⟩ := (unhide h).l.list hx
        exact ⟨h1, h2, h3, hide ((unhide h).lay hx)⟩)
      have HPX := hide hpx
      have HNL := hide hnL
      have HUL := hide hul
      have hp0 : (L.map (·.1)).Perm (L.map (·.1)) := .refl _
      have HP0 := hide hp0
      have e0 : ((n : Int) == 0) = false := by simp; omega
      have e1 : decide ((n : Int) = 0) = false := decide_eq_false (by omega)
      have e2 : decide ((B0 : Int) < 1) = false := decide_eq_false (by omega)
      have e3 : decide (B0 < 1) = false := decide_eq_false (by omega)
      have e4 : (n == 0) = false := by simp; omega
      have e5 : decide (n = 0) = false := decide_eq_false (by omega)
      have g1 : (0 : Int) < (n : Int) := by omega
      have g2 : (0 : Int) ≤ (kx : Int) := by omega
      have g3 : (kx : Int) < (n : Int) := by omega
      obtain ⟨hB1a, hB1b⟩ := hBb
      obtain ⟨hc1, hc2⟩ := hc8
      clear hnL hul hx0 hkx hx hc hxm hxm0 hB1 hB64 hB0 hB hnd hxe hpx hce hce1 hKl hp0
      go_wp2_with (first
        | (go_at_call 18; with_reducible refine (unhide C3 _ _ _ _ _ HM2 hul2 hll2).mono ?_; rintro e w9 ⟨q, bq, rfl, k9⟩; have k10 := hide (unhide HQ _ _ _ k9); have l0 := unhide F0 _ _ _ _ k10)
        | (go_at_call 13; with_reducible refine (unhide CP0 _ _ _ _ k10).mono ?_; rintro e w11 ⟨rfl, k11⟩; obtain ⟨b1, b2, b3, b4⟩ := unhide FB _ _ _ _ k11)
        | (go_at_call 23; with_reducible refine (unhide CA _ _ _ _ k11 (unhide HP0)).mono ?_; rintro e w12 ⟨rfl, t12⟩; have k12 := hide ((unhide k11).below (unhide t12)); obtain ⟨d1, d2, d3, d4⟩ := unhide FB _ _ _ _ k12; obtain ⟨y1, y2, y3, y4⟩ := unhide FX _ _ _ _ k12; obtain ⟨z1, z2, z3, z4⟩ := (unhide y4).x)
        | (go_at_call 9; with_reducible refine (unhide CWI _).mono ?_; rintro e w13 ⟨rfl, t13⟩; obtain rfl := t13.symm)
        | (go_at_call 15; with_reducible refine (unhide CL1 _ _ _ _ y4).mono ?_; rintro e w14 ⟨rfl, k14⟩; obtain ⟨p1, p2, p3, p4⟩ := (unhide k14).x)
        | (go_at_call 15; with_reducible refine (unhide CL2 _ _ _ _ k14).mono ?_; rintro e w15 ⟨rfl, k15⟩; obtain ⟨q1, q2, q3, q4⟩ := (unhide k15).x)
        | (go_at_call 12; with_reducible refine (num_any _ _).mono ?_; rintro e wn ⟨rfl, hn⟩; obtain rfl := hn.symm)
        | (go_at_call 13; with_reducible refine (unhide CPX _ _ _ _ _ k15).mono ?_; rintro e w16 ⟨rfl, k16⟩; obtain ⟨r1, r2, r3, r4⟩ := (unhide k16).x)
        | (go_at_call 10; with_reducible refine (unhide CJX _ _ _ _ k16).mono ?_; rintro e w17 ⟨rfl, k17⟩; obtain ⟨s1, s2, s3, s4⟩ := (unhide k17).x)
        | (go_at_call 13; with_reducible refine (unhide CPX _ _ _ _ _ k17).mono ?_; rintro e w18 ⟨rfl, k18⟩; have k18q := hide (unhide k18).oq; obtain ⟨m1, m2, m3, m4⟩ := unhide FB _ _ _ _ k18q)
        | (go_at_call 23; with_reducible refine (unhide CA _ _ _ _ k18q (unhide HPX)).mono ?_; rintro e w19 ⟨rfl, t19⟩; have k19 := hide ((unhide k18q).below (unhide t19)); obtain ⟨n1, n2, n3, n4⟩ := unhide FB _ _ _ _ k19)
        | (go_at_call 9; with_reducible refine (unhide CWN _).mono ?_; rintro e w20 ⟨rfl, t20⟩; obtain rfl := t20.symm)
        | (go_at_call 24; with_reducible refine (unhide CD _ _ _ _ k19 (unhide HPX)).mono ?_; rintro e w21 ⟨rfl, k21⟩)
        | (go_at_call 13; with_reducible refine (unhide CQ0 _ _ _ k21).mono ?_; rintro e w22 ⟨rfl, k22⟩)
        | (go_at_call 25; with_reducible refine (unhide CNM _ _ _ _ k22).mono ?_; rintro e w23 ⟨a23, c23, rfl, k23⟩)
        | (go_at_call 25; with_reducible refine (unhide CNM _ _ _ _ k23).mono ?_; rintro e w24 ⟨a24, c24, rfl, k24⟩))
      clear CP0 CPX CWI CWN CL1 CL2 CJX CD CQ0 CNM F0 FX k9 k10 l0 k11 b1 b2 b3 b4 t12 k12 d1 d2 d3 d4 y1 y2 y3 y4 z1 z2 z3 z4 k14 p1 p2 p3 p4 k15 q1 q2 q3 q4 k16 r1 r2 r3 r4 k17 s1 s2 s3 s4 k18 k18q m1 m2 m3 m4 t19 k19 n1 n2 n3 n4 k21 k22 k23 HM HM2 HQ C3 HP0 HPX e0 e1 e2 e3 e4 e5 g1 g2 g3
      go_loopw [10, 11, 16] (fun okv ev iv wr => ∃ i : Nat, iv = .int .i64 ((i : Nat) : Int) ∧ i ≤ n ∧ Hid (OQ w0 w6 wr g n cp base L p bp q bq (backK (L.map (·.1)) c i))) (fun _ _ iv _ => n - (intOf iv).toNat)
      case atStart => exact ⟨0, rfl, Nat.zero_le _, by rw [backK_zero]; exact k24⟩
      case round =>
        clear k24
        obtain ⟨i, rfl, hi, HK⟩ := hrel
        by_cases hin : i < n
        · have f1 : decide ((i : Int) < (n : Int)) = true := decide_eq_true (by omega)
          have g1 : (0 : Int) ≤ (i : Int) := by omega
          have g2 : (i : Int) < (n : Int) := by omega
          obtain ⟨y, hy⟩ : ∃ y, L[i]? = some y := ⟨_, List.getElem?_eq_getElem (by have := unhide HNL; omega)⟩
          have hyk : (L.map (·.1))[i]? = some y.1 := by rw [List.getElem?_map, hy]; rfl
          obtain ⟨c0, c1, c2⟩ := (unhide HK).l.list hy
          by_cases hyc : y.1.1 = c
          · obtain ⟨K, hK⟩ : ∃ K, K = backK (L.map (·.1)) c i := ⟨_, rfl⟩
            have hrn : restC (L.map (·.1)) c = restC (L.map (·.1)) c := rfl
            have CJ : Hid (∀ W, Hid (OQ w0 w6 W g n cp base L p bp q bq (backK (L.map (·.1)) c i)) → Calls Try.prog 10 #[.pointer (some ⟨q, 0, none⟩), .int .i64 c, .string (bs y.1.2.1), .bool y.1.2.2] W fun e w' => (∃ m : Int, e = .returned (.tuple #[.int .i64 m, .bool true, .int .i64 0])) ∧ Hid (OQ w0 w6 w' g n cp base L p bp q bq (backK (L.map (·.1)) c (i + 1))) ∧ (w'.cell? ⟨g, i * 3 + 1, none⟩ = some (.slice y.2.1 y.1.2.1.length y.2.2) ∧ w'.cell? ⟨g, i * 3 + 2, none⟩ = some (.bool y.1.2.2) ∧ (convert 23 9 (.slice y.2.1 y.1.2.1.length y.2.2)).run Try.prog w' = .ok (.string (bs y.1.2.1)) w')) := hide (fun W h => by
              have hu := unhide HUL
              have hlen : (L.map (·.1)).length = n := by rw [List.length_map]; exact (unhide HNL).symm
              have h1 := (unhide h).join y.1 (hu.ok y (List.mem_of_getElem? hy)) (backK_new _ c i y.1 hu.nodup hyk hyc) (by rw [hyc]; exact backK_cnt _ c i y.1 hyk hyc (hu.cnt c)) (by have := backK_len (L.map (·.1)) c i (by omega) y.1 hyk hyc; omega)
              rw [hyc] at h1
              refine h1.mono (fun e w' ⟨e1, e2⟩ => ?_)
              have h2 := (unhide e2).1.perm (backK_next _ c i y.1 hyk hyc)
              obtain ⟨t0, t1, t2⟩ := h2.l.list hy
              exact ⟨⟨_, e1⟩, hide h2, t1, t2, h2.l.conv hy⟩)
            have c3 := (unhide HK).l.conv hy
            have HKd := hide ((unhide HK).below (Below.refl _ _).drew)
            have R1 := (unhide HKd).l.conv hy
            rw [hyc] at c0
            clear hyk hyc hy hK hrn
            go_wp2_with fail
            go_region_held3 (fun w' => w'.cell? ⟨g, i * 3 + 1, none⟩ = some (.slice y.2.1 y.1.2.1.length y.2.2) ∧ w'.cell? ⟨g, i * 3 + 2, none⟩ = some (.bool y.1.2.2) ∧ (convert 23 9 (.slice y.2.1 y.1.2.1.length y.2.2)).run Try.prog w' = .ok (.string (bs y.1.2.1)) w') (first | exact z2 | go_keep) (first | (go_at_call 10; with_reducible refine (unhide CJ _ HKd).mono ?_; rintro e w2 ⟨⟨mm, rfl⟩, k2, z2⟩))
            clear z2 R1 c0 c1 c2 c3
            go_wp2_with (first
              | (go_at_call 12; with_reducible refine (num_any _ _).mono ?_; rintro e wn ⟨rfl, hn⟩; obtain rfl := hn.symm))
            all_goals go_roundw
            case rel => exact ⟨i + 1, by go_num, by omega, k2⟩
            case measure => simp [intOf]; omega
          · have f2 : decide (y.1.1 = c) = false := decide_eq_false hyc
            have f3 : (y.1.1 == c) = false := by simpa using hyc
            have HE := hide (backK_skip _ c i y.1 hyk hyc)
            clear hyk hy
            go_wp2_with fail
            all_goals go_roundw
            case rel => exact ⟨i + 1, by go_num, by omega, by rw [unhide HE]; exact HK⟩
            case measure => simp [intOf]; omega
        · obtain rfl : i = n := by omega
          have f1 : decide ((i : Int) < (i : Int)) = false := decide_eq_false (by omega)
          have HP := hide (backK_all (L.map (·.1)) c i (by rw [List.length_map]; exact Nat.le_of_eq (unhide HNL).symm))
          obtain ⟨b1, b2, b3, b4⟩ := unhide FB _ _ _ _ HK
          go_wp2_with (first
            | (go_at_call 23; with_reducible refine (unhide CA _ _ _ _ HK (unhide HP)).mono ?_; rintro e w12 ⟨rfl, t12⟩))
          go_ret
          exact ⟨rfl, hide ((unhide HA0).trans (((unhide HK).l.la.bel.trans ((unhide t12).mono (unhide HK).l.la.bel.size)).mono (unhide HA0).size))⟩
end Go.Proofs.Ytjmnddcombepaaa
