/- Fill. -/
import Derived.Test.YtidfbelckdlbhabCnc
import Derived.Test.YtidfbelckdlbhabShp
import Derived.Test.YtidfbelckdlbhabFpl
import Derived.Test.YtidfbelckdlbhabCpE
import Derived.Lib.SlBytesConst
import Derived.OwnWalk
namespace Go.Proofs.Ytidfbelckdlbhab
open Go.ChangeShapes Go.WideShapes Go.ChangeAt Go.RowKit
set_option linter.unusedVariables false
set_option maxRecDepth 20000
set_option maxHeartbeats 1000000

theorem Bytes.take {w : World} {a : Option Addr} {l : List Nat} (h : Bytes w a l) (k : Nat) : Bytes w a (l.take k) := by
  rcases h with rfl | ⟨b, off, rfl, hb, hc⟩
  · exact .inl (by simp)
  · refine .inr ⟨b, off, rfl, hb, fun i hi => ?_⟩
    rw [List.length_take] at hi
    rw [hc i (by omega), List.getD_eq_getElem?_getD, List.getD_eq_getElem?_getD, List.getElem?_take, if_pos (by omega)]
theorem Bytes.drop {w : World} {x : Addr} {l : List Nat} (h : Bytes w (some x) l) (k : Nat) : Bytes w (some (x.add k)) (l.drop k) := by
  rcases h with rfl | ⟨b, off, h, hb, hc⟩
  · exact .inl (by simp)
  · cases h
    refine .inr ⟨b, off + k, by rw [add_plain], hb, fun i hi => ?_⟩
    rw [List.length_drop] at hi
    rw [Nat.add_assoc, hc (k + i) (by omega), List.getD_eq_getElem?_getD, List.getD_eq_getElem?_getD, List.getElem?_drop]
theorem Bytes.plain {w : World} {x : Addr} {l : List Nat} (h : Bytes w (some x) l) (i : Nat) (hi : i < l.length) : w.cell? (x.add i) = some (.int .u8 ((l.map Int.ofNat).getD i 0)) := by
  rcases h with rfl | ⟨b, off, h, hb, hc⟩
  · simp at hi
  · cases h
    rw [add_plain, hc i hi]
    simp [List.getD_eq_getElem?_getD, hi]

/-- Fill's answer -/
def FillEnd (P T : List Nat) (w : World) (e : Ending) (w' : World) : Prop := ∃ a1 c1 a2 c2 K F s, e = .returned (.tuple #[.slice a1 K.length c1, .slice a2 F.length c2, .bool s]) ∧ Larder.FillIs P T K F s ∧ Bytes w' a1 K ∧ Bytes w' a2 F ∧ Below w.heap.size w w'

theorem fill_some (x : Addr) (b : Option Addr) (n n2 c d : Nat) (w : World) (P T : List Nat) (m : Int) (hn : n = P.length) (hn2 : n2 = T.length) (hP : P.length ≤ 1048576) (hT : T.length ≤ 1048576) (hs : Small P) (hB : Bytes w (some x) P) (hB2 : Bytes w b T) (hc : P.length ≤ c) (hc2 : c ≤ 140737488355328) (hz2 : b = none → d = 0) (hm : w.cell? ⟨0, 0, none⟩ = some (.int .i64 m)) (h00 : 0 < w.heap.size) :
    Calls Try.prog 21 #[.slice (some x) n c, .slice b n2 d] w (FillEnd P T w) := by
  have I1 : Hid (Calls Try.prog 37 #[.slice (some x) n c, .int .u8 42] w fun e w' => e = .returned (.int .i64 (Lib.indexByte (Lib.bytesOf (P.map Int.ofNat)) (42 : Int).toNat.toUInt8)) ∧ w' = w) := hide (Try.bytes_IndexByte_at x n c (P.map Int.ofNat) 42 w (by simp [hn]) (fun i hi => hB.plain i (by omega)))
  have HN := hide hn
  have HN2 := hide hn2
  rw [← hn] at hP hc
  rw [← hn2] at hT
  rcases Larder.star_range (Lib.bytesOf (P.map Int.ofNat)) (42 : Int).toNat.toUInt8 with hi | ⟨o, hi⟩
  · rw [hi] at I1
    have hF : Hid (Larder.FillIs P T [] [] false) := hide (Larder.fill_star (Larder.star_none hi))
    clear hi hB hB2 hm hn hn2
    go_enter Try.func21, Try.ntmps21
    go_wp2_with (go_at_call 37; refine (unhide I1).mono ?_; rintro e w1 ⟨rfl, rfl⟩)
    all_goals go_ret3
    all_goals exact ⟨none, 0, none, 0, [], [], false, rfl, unhide hF, .inl rfl, .inl rfl, Below.refl _ _⟩
  · rw [hi] at I1
    obtain ⟨g1, g2, g3⟩ := Larder.star_some hs hi
    obtain ⟨g0, off, hx, hlt, hcel⟩ := hB.at (by omega)
    cases hx
    clear hcel
    have hlen : (P.drop (o + 1)).length = n - (o + 1) := by rw [List.length_drop, ← hn]
    have hsR : Small (P.drop (o + 1)) := fun i hi => by
      rw [List.length_drop] at hi
      have := hs (o + 1 + i) (by omega)
      rw [List.getD_eq_getElem?_getD] at this
      rw [List.getD_eq_getElem?_getD, List.getElem?_drop]
      exact this
    have hTk : (P.take o).length = o := by rw [List.length_take]; omega
    have hW2 : Below w.heap.size w (w.alloc (.cells #[.int .u8 45, .int .u8 62] 5 (2, 3))).drew := ((Below.refl _ _).alloc (Nat.le_refl _) _).drew
    have hcut : ∀ ar cr, Bytes w ar (P.drop (o + 1)) → n - (o + 1) ≤ cr → (ar = none → cr = 0) → Calls Try.prog 38 #[.slice ar (n - (o + 1)) cr, .slice (some ⟨w.heap.size, 0, none⟩) 2 2] (w.alloc (.cells #[.int .u8 45, .int .u8 62] 5 (2, 3))).drew fun e w' => e = .returned (Lib.cutV ar (n - (o + 1)) cr 2 (Lib.index (Lib.bytesOf ((P.drop (o + 1)).map Int.ofNat)) (Lib.bytesOf [45, 62]))) ∧ Hid (Below w.heap.size w w') := fun ar cr hR hcr hzr => by
      refine (Try.bytes_Cut_all ar (some ⟨w.heap.size, 0, none⟩) (n - (o + 1)) cr 2 2 ((P.drop (o + 1)).map Int.ofNat) [45, 62] m (w.alloc (.cells #[.int .u8 45, .int .u8 62] 5 (2, 3))).drew (by rw [List.length_map, hlen]) rfl (fun y hy => ?_) (by decide) (fun h0 => ?_) (fun _ => ⟨w.heap.size, 0, rfl, fun i hi => ?_⟩) hzr hcr (by omega) (by decide) ?_).mono ?_
      · obtain ⟨z, hz, rfl⟩ := List.mem_map.1 hy
        obtain ⟨i, hi, rfl⟩ := List.mem_iff_getElem.1 hz
        have := hsR i hi
        rw [List.getD_eq_getElem?_getD, List.getElem?_eq_getElem hi] at this
        simp only [Option.getD_some] at this
        exact ⟨Int.natCast_nonneg _, Int.ofNat_lt.2 this⟩
      · obtain ⟨bb, oo, e, _, hcc⟩ := (hR.below hW2).at (by omega)
        refine ⟨bb, oo, e, fun i hi => ?_⟩
        rw [hcc i (by omega)]
        simp [List.getD_eq_getElem?_getD, show o + 1 + i < P.length by omega]
      · show (w.alloc (.cells #[.int .u8 45, .int .u8 62] 5 (2, 3))).cell? _ = _
        rw [World.cell?_alloc_mark]
        match i, hi with
        | 0, _ => rfl
        | 1, _ => rfl
      · show (w.alloc (.cells #[.int .u8 45, .int .u8 62] 5 (2, 3))).cell? _ = _
        exact Lib.cell?_alloc_marked _ hm
      · rintro e w' ⟨h1, q, rfl⟩
        exact ⟨h1, hide ⟨rfl, rfl, rfl, hW2.size, hW2.block⟩⟩
    have hcat : ∀ ar k cr (R : List Nat), k = R.length → R.length ≤ 1048576 → Bytes w ar R → (ar = none → cr = 0) → Hid (∀ W, Hid (Below w.heap.size w W) → Calls Try.prog 39 #[.slice (some ⟨W.heap.size, 0, none⟩) 3 3] (W.alloc (.cells #[.slice (some ⟨g0, off, none⟩) o c, .slice b n2 d, .slice ar k cr] 28)) fun e w' => ∃ v, e = .returned v ∧ Hid (OwnB w' W.heap.size v (P.take o ++ T ++ R) ∧ Below W.heap.size W w')) := fun ar k cr R hk hR1 hR hzr => hide (fun W hW => by
      have hb := unhide hW
      have hb2 : Below W.heap.size W (W.alloc (.cells #[.slice (some ⟨g0, off, none⟩) o c, .slice b n2 d, .slice ar k cr] 28)) := (Below.refl _ _).alloc (Nat.le_refl _) _
      have hrow := heap_alloc_new W (.cells #[.slice (some ⟨g0, off, none⟩) o c, .slice b n2 d, .slice ar k cr] 28)
      have hbw := chain hb hb2 (Nat.le_refl _)
      refine (concat3 _ W.heap.size (some ⟨g0, off, none⟩) b ar c d cr (P.take o) T R (by omega) ?_ ?_ ?_ ((hB.take o).below hbw) (hB2.below hbw) (hR.below hbw) (by simp) (fun h => by cases h) hz2 hzr).mono ?_
      · rw [cell_of_row _ _ _ _ _ _ hrow, hTk]; rfl
      · rw [cell_of_row _ _ _ _ _ _ hrow, ← hn2]; rfl
      · rw [cell_of_row _ _ _ _ _ _ hrow, ← hk]; rfl
      · rintro e w' ⟨v, h1, h2, h3⟩
        exact ⟨v, h1, hide ⟨h2.mono (by simp), chain hb2 h3 (Nat.le_refl _)⟩⟩)
    have kcv : (convert 28 28 (.slice (some ⟨w.heap.size, 0, none⟩) 2 2)).run Try.prog (w.alloc (.cells #[.int .u8 45, .int .u8 62] 5)).drew = .ok (.slice (some ⟨w.heap.size, 0, none⟩) 2 2) (w.alloc (.cells #[.int .u8 45, .int .u8 62] 5 (2, 3))).drew := Lib.run_convert_bytes_const (P := Try.prog) w.drew 28 5 #[.int .u8 45, .int .u8 62] 2 2 Try.underlying28 Try.underlying5
    have k1 : decide ((o : Int) < 0) = false := decide_eq_false (by omega)
    have k2 : IntKind.i64.wrap ((o : Int) + 1) = ((o + 1 : Nat) : Int) := by rw [IntKind.wrap_i64]; omega
    rw [← hn] at g1
    have hPl : n - (o + 1) = (P.drop (o + 1)).length := hlen.symm
    by_cases hco : c = o + 1
    · have hnil : P.drop (o + 1) = [] := List.eq_nil_of_length_eq_zero (by omega)
      have C2 := hide (hcut (some ⟨g0, off, none⟩) 0 (by rw [hnil]; exact .inl rfl) (by omega) (fun h => by cases h))
      have C4 := hcat (some ⟨g0, off, none⟩) 0 0 [] rfl (by simp) (.inl rfl) (fun h => by cases h)
      have hF : Hid (Larder.FillIs P T (P.take o ++ T ++ []) [] true) := hide (by
        have := Larder.fill_plain (T := T) (by omega) g2 g3 (fun j hj => by rw [hnil] at hj; simp at hj)
        rwa [hnil] at this)
      have hi0 : Lib.index (Lib.bytesOf ((P.drop (o + 1)).map Int.ofNat)) (Lib.bytesOf [45, 62]) = -1 := by rw [hnil]; rfl
      rw [hi0, show n - (o + 1) = 0 by omega] at C2
      have e2 : Lib.cutV (some ⟨g0, off, none⟩) 0 0 2 (-1) = .tuple #[.slice (some ⟨g0, off, none⟩) 0 0, .slice none 0 0, .bool false] := rfl
      rw [e2] at C2
      subst hco
      clear hcut hcat hW2 hsR hlen hTk hi hB hB2 hm hs g2 g3 hn hn2 hPl hlt hnil hi0 e2
      go_enter Try.func21, Try.ntmps21
      go_wp2_with (first | (go_at_call 37; refine (unhide I1).mono ?_; rintro e w1 ⟨rfl, hw1⟩; cases hw1) | fail)
      go_region
      all_goals go_wp2_with (first | (go_at_call 38; refine (unhide C2).mono ?_; rintro e w2 ⟨rfl, hb2⟩) | (go_at_call 39; refine (unhide C4 _ hb2).mono ?_; rintro e w4 ⟨v4, rfl, h4⟩) | fail)
      all_goals go_ret3
      all_goals obtain ⟨a4, c4, rfl, b4, _⟩ := (unhide h4).1.shape
      all_goals exact ⟨a4, c4, none, 0, _, [], true, rfl, unhide hF, b4, .inl rfl, chain (unhide hb2) (unhide h4).2 (Nat.le_refl _)⟩
    · have hR : Bytes w (some ⟨g0, off + (o + 1), none⟩) (P.drop (o + 1)) := by
        have := hB.drop (o + 1)
        rwa [add_plain] at this
      have C2 := hide (hcut (some ⟨g0, off + (o + 1), none⟩) (c - (o + 1)) hR (by omega) (fun h => by cases h))
      rcases Larder.arrow_of hsR with ⟨hi0, hno⟩ | ⟨i, hi0, hi1, hi2, hi3⟩
      · rw [hi0] at C2
        have e2 : ∀ p q r, Lib.cutV p q r 2 (-1) = .tuple #[.slice p q r, .slice none 0 0, .bool false] := fun _ _ _ => rfl
        rw [e2] at C2
        have C4 := hcat (some ⟨g0, off + (o + 1), none⟩) (n - (o + 1)) (c - (o + 1)) (P.drop (o + 1)) hPl (by omega) hR (fun h => by cases h)
        have hF : Hid (Larder.FillIs P T (P.take o ++ T ++ P.drop (o + 1)) [] true) := hide (Larder.fill_plain (by omega) g2 g3 (fun j hj => hno j (by omega)))
        clear hcut hcat hW2 hsR hlen hTk hi hB hB2 hm hs g2 g3 hn hn2 hPl hlt hR hi0 hno e2
        go_enter Try.func21, Try.ntmps21
        go_wp2_with (first | (go_at_call 37; refine (unhide I1).mono ?_; rintro e w1 ⟨rfl, hw1⟩; cases hw1) | fail)
        go_region
        all_goals go_wp2_with (first | (go_at_call 38; refine (unhide C2).mono ?_; rintro e w2 ⟨rfl, hb2⟩) | (go_at_call 39; refine (unhide C4 _ hb2).mono ?_; rintro e w4 ⟨v4, rfl, h4⟩) | fail)
        all_goals go_ret3
        all_goals obtain ⟨a4, c4, rfl, b4, _⟩ := (unhide h4).1.shape
        all_goals exact ⟨a4, c4, none, 0, _, [], true, rfl, unhide hF, b4, .inl rfl, chain (unhide hb2) (unhide h4).2 (Nat.le_refl _)⟩
      · rw [hi0] at C2
        have e2 : ∀ p q r, Lib.cutV p q r 2 (i : Int) = .tuple #[.slice p i r, Lib.fromV p q r (i + 2), .bool true] := fun p q r => by
          unfold Lib.cutV
          rw [if_pos (by omega)]
          simp
        rw [e2] at C2
        by_cases hlast : i + 2 = n - (o + 1)
        · have C4 := hcat (some ⟨g0, off + (o + 1), none⟩) (n - (o + 1)) (c - (o + 1)) (P.drop (o + 1)) hPl (by omega) hR (fun h => by cases h)
          have hF : Hid (Larder.FillIs P T (P.take o ++ T ++ P.drop (o + 1)) [] true) := hide (Larder.fill_plain (by omega) g2 g3 (fun j hj => hi3 j (by omega)))
          obtain ⟨an, cn, e3⟩ : ∃ an cn, Lib.fromV (some ⟨g0, off + (o + 1), none⟩) (n - (o + 1)) (c - (o + 1)) (i + 2) = .slice an 0 cn := ⟨_, _, by unfold Lib.fromV; rw [hlast, Nat.sub_self]⟩
          rw [e3] at C2
          clear hcut hcat hW2 hsR hlen hTk hi hB hB2 hm hs g2 g3 hn hn2 hPl hlt hR hi0 hi1 hi2 hi3 e2 e3 hlast
          go_enter Try.func21, Try.ntmps21
          go_wp2_with (first | (go_at_call 37; refine (unhide I1).mono ?_; rintro e w1 ⟨rfl, hw1⟩; cases hw1) | fail)
          go_region
          all_goals go_wp2_with (first | (go_at_call 38; refine (unhide C2).mono ?_; rintro e w2 ⟨rfl, hb2⟩) | (go_at_call 39; refine (unhide C4 _ hb2).mono ?_; rintro e w4 ⟨v4, rfl, h4⟩) | fail)
          all_goals go_ret3
          all_goals obtain ⟨a4, c4, rfl, b4, _⟩ := (unhide h4).1.shape
          all_goals exact ⟨a4, c4, none, 0, _, [], true, rfl, unhide hF, b4, .inl rfl, chain (unhide hb2) (unhide h4).2 (Nat.le_refl _)⟩
        · have hlt2 : i + 2 < n - (o + 1) := by omega
          have C4 := hcat (some ⟨g0, off + (o + 1), none⟩) i (c - (o + 1)) ((P.drop (o + 1)).take i) (by rw [List.length_take]; omega) (by rw [List.length_take]; omega) (hR.take i) (fun h => by cases h)
          have hF : Hid (Larder.FillIs P T (P.take o ++ T ++ (P.drop (o + 1)).take i) ((P.drop (o + 1)).drop (i + 2)) true) := hide (Larder.fill_field (by omega) g2 g3 (by omega) hi2 hi3)
          obtain ⟨nn, enn⟩ : ∃ nn, nn = n - (o + 1) - (i + 2) := ⟨_, rfl⟩
          obtain ⟨an, cn, e3, hRn⟩ : ∃ an cn, Lib.fromV (some ⟨g0, off + (o + 1), none⟩) (n - (o + 1)) (c - (o + 1)) (i + 2) = .slice an nn cn ∧ Bytes w an ((P.drop (o + 1)).drop (i + 2)) := by
            have hd := hR.drop (i + 2)
            refine ⟨_, _, by unfold Lib.fromV; rw [if_neg (by omega), enn], ?_⟩
            exact hd
          rw [e3] at C2
          have C3 : Hid (∀ W, Hid (Below w.heap.size w W) → Calls Try.prog 25 #[.slice an nn cn] W fun e w' => ∃ v, e = .returned v ∧ Hid (OwnB w' w.heap.size v ((P.drop (o + 1)).drop (i + 2)) ∧ Below w.heap.size w w')) := hide (fun W hW => by
            have h := clone_any an cn W ((P.drop (o + 1)).drop (i + 2)) (by rw [List.length_drop]; omega) (hRn.below (unhide hW))
            rw [List.length_drop, hlen, ← enn] at h
            exact h.mono (fun e w' ⟨v, q1, q2, q3⟩ => ⟨v, q1, hide ⟨q2.mono (unhide hW).size, chain (unhide hW) q3 (Nat.le_refl _)⟩⟩))
          have hnn : 0 < nn := by omega
          clear hcut hcat hW2 hsR hlen hTk hi hB hB2 hm hs g2 g3 hn hn2 hPl hlt hR hi0 hi1 hi2 hi3 e2 e3 hRn enn
          go_enter Try.func21, Try.ntmps21
          go_wp2_with (first | (go_at_call 37; refine (unhide I1).mono ?_; rintro e w1 ⟨rfl, hw1⟩; cases hw1) | fail)
          go_region
          all_goals go_wp2_with (first | (go_at_call 38; refine (unhide C2).mono ?_; rintro e w2 ⟨rfl, hb2⟩) | (go_at_call 25; refine (unhide C3 _ hb2).mono ?_; rintro e w3 ⟨v3, rfl, hb3⟩) | (go_at_call 39; refine (unhide C4 _ (hide (unhide hb3).2)).mono ?_; rintro e w4 ⟨v4, rfl, h4⟩) | fail)
          all_goals go_ret3
          all_goals obtain ⟨a4, c4, rfl, b4, _⟩ := (unhide h4).1.shape
          all_goals obtain ⟨a3, c3, rfl, b3, _⟩ := (unhide hb3).1.shape
          all_goals exact ⟨a4, c4, a3, c3, _, _, true, rfl, unhide hF, b4, b3.below (unhide h4).2, chain (unhide hb3).2 (unhide h4).2 (Nat.le_refl _)⟩
end Go.Proofs.Ytidfbelckdlbhab
