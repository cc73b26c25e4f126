/- SetBytes. -/
import Derived.Test.YtdgdnpgjbphgaabBytes
namespace Go.Proofs.Ytdgdnpgjbphgaab
open Go.ChangeShapes Go.WideShapes Go.ChangeAt Go.RowKit
set_option linter.unusedVariables false
set_option maxRecDepth 100000
set_option maxHeartbeats 2000000

/-- d laid into l from place o on -/
def patch (l : List Nat) (o : Nat) (d : List Nat) : List Nat := (List.range l.length).map fun i => if o ≤ i ∧ i < o + d.length then d.getD (i - o) 0 else l.getD i 0
theorem patch_length (l : List Nat) (o : Nat) (d : List Nat) : (patch l o d).length = l.length := by simp [patch]
theorem patch_at (l : List Nat) (o : Nat) (d : List Nat) (i : Nat) (h : i < l.length) : (patch l o d).getD i 0 = if o ≤ i ∧ i < o + d.length then d.getD (i - o) 0 else l.getD i 0 := by
  unfold patch
  rw [List.getD_eq_getElem?_getD, List.getElem?_map, List.getElem?_range h]; rfl
theorem patch_below (N : Nat) (l : List Nat) (o : Nat) (d : List Nat) (hl : ∀ i, i < l.length → l.getD i 0 < N) (hd : ∀ i, i < d.length → d.getD i 0 < N) : ∀ i, i < (patch l o d).length → (patch l o d).getD i 0 < N := by
  intro i hi
  rw [patch_length] at hi
  rw [patch_at l o d i hi]
  split
  · exact hd _ (by omega)
  · exact hl _ hi
theorem patch_nil (l : List Nat) (o : Nat) : patch l o [] = l := by
  apply List.ext_getElem?
  intro i
  by_cases hi : i < l.length
  · have h := patch_at l o [] i hi
    rw [if_neg (by simp)] at h
    rw [List.getD_eq_getElem?_getD, List.getD_eq_getElem?_getD, List.getElem?_eq_getElem hi, List.getElem?_eq_getElem (by rw [patch_length]; exact hi)] at h
    rw [List.getElem?_eq_getElem hi, List.getElem?_eq_getElem (by rw [patch_length]; exact hi)]
    exact congrArg some h
  · rw [List.getElem?_eq_none (by rw [patch_length]; omega), List.getElem?_eq_none (by omega)]
theorem below_setCells {B g : Nat} {w0 : World} (hg : B ≤ g) : ∀ (vs : List Value) (o : Nat) {w : World}, Below B w0 w → Below B w0 (w.setCells g o vs)
  | [], _, _, h => h
  | v :: r, o, w, h => below_setCells hg r (o + 1) (h.setCell (p := ⟨g, o, none⟩) hg v)
theorem Ar.puts {w : World} {p bw bh : Nat} {ws : List Nat} {hs : List Bool} {used : Nat} (h : Ar w p bw bh ws hs used) (o : Nat) (d : List Nat) (hd : o + d.length ≤ ws.length) (hv : ∀ i, i < d.length → d.getD i 0 < 18446744073709551616) :
    Ar (w.setCells bw o (wcells d)) p bw bh (patch ws o d) hs used := by
  have hb : But [bw] w (w.setCells bw o (wcells d)) := But.sets bw (by simp) _ _ _ (But.refl _ _)
  have n1 : p ∉ [bw] := by simp; exact h.ne1
  have n3 : bh ∉ [bw] := by simp; exact Ne.symm h.ne3
  have hwl : (wcells d).length = d.length := by simp [wcells]
  refine { c0 := ?_, c1 := ?_, c2 := ?_, f2 := ?_, ww := ?_, wf := ?_, hh := ?_, hf := ?_, hl := ?_, ne1 := h.ne1, ne2 := h.ne2, ne3 := h.ne3, lp := ?_, lw := ?_, lh := ?_, u1 := h.u1, u2 := ?_, sz := ?_, small := ?_ }
  · rw [hb.cell (q := ⟨p, 0, none⟩) h.lp n1, patch_length]; exact h.c0
  · rw [hb.cell (q := ⟨p, 1, none⟩) h.lp n1, patch_length]; exact h.c1
  · rw [hb.cell (q := ⟨p, 2, none⟩) h.lp n1]; exact h.c2
  · rw [hb.frozen (q := ⟨p, 2, none⟩) h.lp n1]; exact h.f2
  · intro j hj
    rw [patch_length] at hj
    rw [patch_at ws o d j hj]
    by_cases e : o ≤ j ∧ j < o + d.length
    · rw [if_pos e]
      have h1 := World.cell?_setCells_in bw (wcells d) o w (fun i hi => by rw [h.ww _ (by omega)]; rfl) (j - o) (by omega)
      rw [show o + (j - o) = j by omega] at h1
      rw [h1]
      have h2 := wcells_at d (j - o) (by omega)
      rw [List.getElem?_eq_getElem (by omega)] at h2
      exact h2
    · rw [if_neg e, World.cell?_setCells_out bw (wcells d) o w ⟨bw, j, none⟩ (fun _ _ => by show j < o ∨ o + (wcells d).length ≤ j; omega)]
      exact h.ww j hj
  · intro j hj
    rw [patch_length] at hj
    rw [World.frozen?_setCells]; exact h.wf j hj
  · intro j hj
    rw [patch_length] at hj
    rw [hb.cell (q := ⟨bh, j, none⟩) h.lh n3]; exact h.hh j hj
  · intro j hj
    rw [patch_length] at hj
    rw [hb.frozen (q := ⟨bh, j, none⟩) h.lh n3]; exact h.hf j hj
  · rw [patch_length]; exact h.hl
  · exact Nat.lt_of_lt_of_le h.lp hb.size
  · exact Nat.lt_of_lt_of_le h.lw hb.size
  · exact Nat.lt_of_lt_of_le h.lh hb.size
  · rw [patch_length]; exact h.u2
  · rw [patch_length]; exact h.sz
  · exact patch_below _ ws o d h.small hv

/-- the bytes l were laid into the raws from byte from' on -/
structure Written (ws ws' : List Nat) (b0 s from' : Nat) (l : List Nat) : Prop where
  len : ws'.length = ws.length
  out : ∀ j, j < b0 ∨ b0 + s ≤ j → ws'.getD j 0 = ws.getD j 0
  bytes : ∀ q, q < 8 * s → rawByte ws' b0 q = if from' ≤ q ∧ q < from' + l.length then l.getD (q - from') 0 else rawByte ws b0 q
theorem written_nil (ws : List Nat) (b0 s from' : Nat) : Written ws ws b0 s from' [] := ⟨rfl, fun _ _ => rfl, fun q _ => by rw [if_neg (by simp)]⟩
/-- the words after the bytes were laid into them -/
def anew (ws : List Nat) (c m sk : Nat) (l : List Nat) : List Nat := Larder.packL (patch (Larder.unpackL (runL ws c m) (8 * m)) sk l)
theorem anew_length (ws : List Nat) (c m sk : Nat) (l : List Nat) : (anew ws c m sk l).length = m := by
  unfold anew
  rw [Larder.packL_length, patch_length, Larder.unpackL_length]; unfold Larder.wn; omega
theorem small_patch {U l : List Nat} (sk : Nat) (h1 : Small U) (h2 : Small l) : Small (patch U sk l) := patch_below 256 U sk l h1 h2
theorem anew_lt (ws : List Nat) (c m sk : Nat) (l : List Nat) (hl : Small l) : ∀ i, i < (anew ws c m sk l).length → (anew ws c m sk l).getD i 0 < 18446744073709551616 := by
  intro i hi
  unfold anew
  rw [← Larder.packK_all]
  exact Larder.packK_lt (small_patch sk (Larder.unpackL_small _ _) hl) _ _
theorem written_anew (ws : List Nat) (b0 s from' m : Nat) (l : List Nat) (hl : Small l) (hs : b0 + s ≤ ws.length) (hn : from' + l.length ≤ 8 * s) (hm : m = Larder.wn (from' + l.length) - from' / 8) :
    Written ws (patch ws (b0 + from' / 8) (anew ws (b0 + from' / 8) m (from' % 8) l)) b0 s from' l := by
  have hml := anew_length ws (b0 + from' / 8) m (from' % 8) l
  have hm2 : from' / 8 + m ≤ s := by rw [hm]; unfold Larder.wn; omega
  have hm3 : from' + l.length ≤ 8 * (from' / 8 + m) := by rw [hm]; unfold Larder.wn; omega
  refine ⟨patch_length _ _ _, fun j hj => ?_, fun q hq => ?_⟩
  · by_cases hjl : j < ws.length
    · rw [patch_at _ _ _ _ hjl, if_neg (by omega)]
    · rw [List.getD_eq_getElem?_getD, List.getElem?_eq_none (by rw [patch_length]; omega), List.getD_eq_getElem?_getD, List.getElem?_eq_none (by omega)]
  · have hql : b0 + q / 8 < ws.length := by omega
    by_cases hin : from' / 8 ≤ q / 8 ∧ q / 8 < from' / 8 + m
    · obtain ⟨i, hi⟩ : ∃ i, i = q - 8 * (from' / 8) := ⟨_, rfl⟩
      have hX : Larder.SmallL (patch (Larder.unpackL (runL ws (b0 + from' / 8) m) (8 * m)) (from' % 8) l) := small_patch (from' % 8) (Larder.unpackL_small _ _) hl
      have hXl : (patch (Larder.unpackL (runL ws (b0 + from' / 8) m) (8 * m)) (from' % 8) l).length = 8 * m := by rw [patch_length, Larder.unpackL_length]
      have h1 := Larder.unpack_pack hX (8 * m) i (by omega) (by rw [hXl]; unfold Larder.wn; omega)
      rw [Larder.unpackL_get _ _ _ (by omega), patch_at _ _ _ _ (by rw [Larder.unpackL_length]; omega), Larder.unpackL_get _ _ _ (by omega), runL_at _ _ _ _ (by omega)] at h1
      show (patch ws (b0 + from' / 8) (anew ws (b0 + from' / 8) m (from' % 8) l)).getD (b0 + q / 8) 0 / 2 ^ (8 * (q % 8)) % 256 = _
      rw [patch_at _ _ _ _ hql, if_pos (by omega)]
      unfold anew rawByte
      rw [show b0 + q / 8 - (b0 + from' / 8) = i / 8 by omega, show q % 8 = i % 8 by omega, h1, show b0 + q / 8 = b0 + from' / 8 + i / 8 by omega]
      by_cases hc : from' ≤ q ∧ q < from' + l.length
      · rw [if_pos hc, if_pos (by omega), show i - from' % 8 = q - from' by omega]
      · rw [if_neg hc, if_neg (by omega)]
    · rw [if_neg (by omega)]
      unfold rawByte
      rw [patch_at _ _ _ _ hql, if_neg (by omega)]
theorem size36 : (Try.prog.info? 24).map (·.size) = some 1 := by
  obtain ⟨i0, hi, hy0, hy1, hy2⟩ := info_parts Try.info24
  rw [hi]; simp [hy1]
theorem size5 : (Try.prog.info? 5).map (·.size) = some 1 := by
  obtain ⟨i0, hi, hy0, hy1, hy2⟩ := info_parts Try.info5
  rw [hi]; simp [hy1]
theorem wcells_length (l : List Nat) : (wcells l).length = l.length := by simp [wcells]
theorem wcells_one (l : List Nat) : ∀ u ∈ wcells l, u.oneCell' = true := by
  intro u hu
  obtain ⟨c, _, rfl⟩ := List.mem_map.1 hu
  rfl

theorem setbytes_yes {p bw bh : Nat} {ws : List Nat} {hs : List Bool} {used : Nat} (k from' : Nat) (l : List Nat) (a : Option Addr) (cap : Nat) (w : World) (h : Ar w p bw bh ws hs used) (hh : Heads ws hs used) (he : (objRes ws hs used k).2.2.2 = 0) (hn : from' + l.length ≤ 8 * (objRes ws hs used k).2.2.1) (hB : Bytes w a l) (hsl : Small l) :
    Calls Try.prog 73 #[.pointer (some ⟨p, 0, none⟩), .int .i64 k, .int .i64 from', .slice a l.length cap] w fun e w' => ∃ ws', e = .returned (.int .i64 0) ∧ Ar w' p bw bh ws' hs used ∧ But [bw] w w' ∧ Written ws ws' (k + 1 + (objRes ws hs used k).2.1) (objRes ws hs used k).2.2.1 from' l := by
  have HR := hide (run_yes k from' l.length w h hh he hn)
  have hu := h.u2
  have hz := h.sz
  have hs24 := obj_raws ws hs used k
  generalize (objRes ws hs used k).2.1 = r at *
  generalize (objRes ws hs used k).2.2.1 = s at *
  obtain ⟨m, hm⟩ : ∃ m, m = Larder.wn (from' + l.length) - from' / 8 := ⟨_, rfl⟩
  have hms : from' / 8 + m ≤ s := by rw [hm]; unfold Larder.wn; omega
  have hm8 : from' % 8 + l.length ≤ 8 * m := by rw [hm]; unfold Larder.wn; omega
  have hm0 : m = 0 → from' % 8 = 0 := by rw [hm]; unfold Larder.wn; omega
  rw [← hm] at HR
  have HUP : Hid (∀ off w1, Below w.heap.size w w1 → k + 1 + r + s ≤ used → (0 < m → off = k + 1 + r + from' / 8) → Calls Try.prog 69 #[.slice (some ⟨bw, off, none⟩) m m, .int .i64 ((8 * m : Nat) : Int)] w1 fun e w' => ∃ v, e = .returned (.tuple #[v, .int .i64 0]) ∧ OwnB w' w1.heap.size v (Larder.unpackL (runL ws (k + 1 + r + from' / 8) m) (8 * m)) ∧ Below w1.heap.size w1 w') := hide (fun off w1 hb hfit ho => by
    obtain ⟨h1, h2⟩ := (h.below hb).run off (k + 1 + r + from' / 8) m ho (by omega)
    have h3 := unpack_yes (some ⟨bw, off, none⟩) m (8 * m) w1 (runL ws (k + 1 + r + from' / 8) m) (by omega) (by rw [runL_length]; unfold Larder.wn; omega) h1 h2
    rw [runL_length] at h3
    exact h3)
  have HWR : Hid (k + 1 + r + s ≤ used → Written ws (patch ws (k + 1 + r + from' / 8) (anew ws (k + 1 + r + from' / 8) m (from' % 8) l)) (k + 1 + r) s from' l) := hide (fun hfit => written_anew ws (k + 1 + r) s from' m l hsl (by omega) hn hm)
  have HAL := hide (anew_length ws (k + 1 + r + from' / 8) m (from' % 8) l)
  have HAT := hide (anew_lt ws (k + 1 + r + from' / 8) m (from' % 8) l hsl)
  have HPK : Hid (∀ (a1 : Option Addr) (c1 : Nat) (w3 : World), Bytes w3 a1 (patch (Larder.unpackL (runL ws (k + 1 + r + from' / 8) m) (8 * m)) (from' % 8) l) → Calls Try.prog 89 #[.slice a1 (8 * m) c1] w3 fun e w' => ∃ v, e = .returned v ∧ OwnW w' w3.heap.size v (anew ws (k + 1 + r + from' / 8) m (from' % 8) l) ∧ Below w3.heap.size w3 w') := hide (fun a1 c1 w3 hb => by
    have h1 := pack_any a1 c1 w3 _ (by rw [patch_length, Larder.unpackL_length]; omega) hb (small_patch _ (Larder.unpackL_small _ _) hsl)
    rw [patch_length, Larder.unpackL_length] at h1
    exact h1)
  have hUL := Larder.unpackL_length (runL ws (k + 1 + r + from' / 8) m) (8 * m)
  generalize Larder.unpackL (runL ws (k + 1 + r + from' / 8) m) (8 * m) = U at *
  generalize anew ws (k + 1 + r + from' / 8) m (from' % 8) l = N at *
  obtain ⟨sk, hsk⟩ : ∃ sk, sk = from' % 8 := ⟨_, rfl⟩
  have hmod : (from' : Int) % 8 = (sk : Int) := by omega
  have htmod : (from' : Int).tmod 8 = (sk : Int) := by rw [Int.tmod_eq_emod_of_nonneg (by omega)]; exact hmod
  rw [← hsk] at HPK hm8 hm0
  have hsk8 : sk < 8 := by omega
  rw [show ((8 * m : Nat) : Int) = 8 * (m : Int) from by omega] at HUP
  have HUL := hide hUL
  have HH := hide h
  have HB := hide hB
  have hm20 : m ≤ 1048576 * 16 := by omega
  have HMS := hide hms
  clear h hh he hm hsk hms hUL hB
  go_enter Try.func73, Try.ntmps73
  go_wp2_with fail
  refine (unhide HR).mono ?_
  rintro e w1 ⟨⟨off, rfl, hoff⟩, hb1, hfit⟩
  have HC := hide (unhide HUP off w1 hb1 hfit hoff)
  have HOF := hide hoff
  clear hoff
  go_wp2_with fail
  refine (unhide HC).mono ?_
  rintro e w2 ⟨v, rfl, hown, hb2⟩
  have hb12 := hb1.trans (hb2.mono hb1.size)
  have HB2 := hide hb12
  by_cases h0 : m = 0
  · have hsk0 := hm0 h0
    have hl0 : l = [] := List.eq_nil_of_length_eq_zero (by omega)
    subst h0
    subst hsk0
    subst hl0
    have CN1 : ∀ d dLen dCap w', (Builtin.copy_ #[22, 22] 3 #[.slice d dLen dCap, .slice a 0 cap]).run Try.prog w' = .ok (goInt 0) w' := fun d dLen dCap w' => run_copy_none w' 22 22 3 5 d a dLen dCap 0 cap Try.underlying22 size5 (Nat.zero_min _)
    have CN2 : ∀ d s sLen sCap w', (Builtin.copy_ #[62, 62] 3 #[.slice d 0 0, .slice s sLen sCap]).run Try.prog w' = .ok (goInt 0) w' := fun d s sLen sCap w' => run_copy_none w' 62 62 3 24 d s 0 0 sLen sCap Try.underlying62 size36 (Nat.min_zero _)
    have hN : N = [] := List.eq_nil_of_length_eq_zero (unhide HAL)
    subst hN
    have HWN : Hid (Written ws ws (k + 1 + r) s from' []) := hide (written_nil _ _ _ _)
    have hU := unhide HUL
    have hU0 : U = [] := List.eq_nil_of_length_eq_zero (by omega)
    subst hU0
    have HEND : Hid (∀ w3, Below w2.heap.size w2 w3 → Ar w3 p bw bh ws hs used ∧ But [bw] w w3 ∧ Written ws ws (k + 1 + r) s from' []) := hide (fun w3 hb3 => ⟨((unhide HH).below hb12).below hb3, But.of_below (hb12.trans (hb3.mono hb12.size)), unhide HWN⟩)
    have HPP : Hid (∀ (a1 : Option Addr) (c1 : Nat), Calls Try.prog 89 #[.slice a1 0 c1] w2 fun e w' => ∃ v, e = .returned v ∧ OwnW w' w2.heap.size v [] ∧ Below w2.heap.size w2 w') := hide (fun a1 c1 => unhide HPK a1 c1 w2 (by rw [patch_nil]; exact .inl rfl))
    rcases hown.2 with ⟨rfl, h0⟩ | ⟨g, c1, cur, rfl, hbb, hg, hn2, hm2, hs2, ht2⟩
    · clear hown hb1 hb2 hb12
      go_wp2_with fail
      refine (unhide HPP none 0).mono ?_
      rintro e w3 ⟨v, rfl, hv, hb3⟩
      obtain ⟨a2, c2, rfl, _⟩ := hv.shape
      clear hv
      go_wp2
      go_ret
      exact ⟨ws, rfl, unhide HEND w3 hb3⟩
    · clear hown hb1 hb2 hb12 hg hs2 ht2 hn2
      have hcm : c1 ≤ 9223372036854775807 := by unfold maxLen at hm2; omega
      by_cases hsc : 0 = c1
      · subst hsc
        go_wp2_with fail
        refine (unhide HPP _ _).mono ?_
        rintro e w3 ⟨v, rfl, hv, hb3⟩
        obtain ⟨a2, c2, rfl, _⟩ := hv.shape
        clear hv
        go_wp2
        go_ret
        exact ⟨ws, rfl, unhide HEND w3 hb3⟩
      · go_wp2_with fail
        refine (unhide HPP _ _).mono ?_
        rintro e w3 ⟨v, rfl, hv, hb3⟩
        obtain ⟨a2, c2, rfl, _⟩ := hv.shape
        clear hv
        go_wp2
        go_ret
        exact ⟨ws, rfl, unhide HEND w3 hb3⟩
  · have ho := unhide HOF (by omega)
    subst ho
    rcases hown.2 with ⟨rfl, h0'⟩ | ⟨g, c1, cur, rfl, hbb, hg, hn2, hm2, hs2, ht2⟩
    · have := unhide HUL; omega
    have hgl := (Array.getElem?_eq_some_iff.1 hg).1
    have hUl := unhide HUL
    rw [hUl] at hn2
    have hcap : 8 * m ≤ c1 := hn2
    have hcm : c1 ≤ 9223372036854775807 := by unfold maxLen at hm2; omega
    have hgw : w.heap.size ≤ g := Nat.le_trans hb1.size hbb
    have hgc : ∀ j, j < 8 * m → w2.cell? ⟨g, j, none⟩ = some (.int .u8 (U.getD j 0 : Nat)) := fun j hj => by
      rw [World.ownsRow.cellAt hown j (by omega), cellsOf_at _ _ (by omega)]
    have hgf : ∀ j, w2.frozen? ⟨g, j, none⟩ = false := fun j => by simp [World.frozen?, hg]
    have hc1 : (Builtin.copy_ #[22, 22] 3 #[.slice (some ⟨g, sk, none⟩) (8 * m - sk) (c1 - sk), .slice a l.length cap]).run Try.prog w2 = .ok (goInt l.length) (w2.setCells g sk (cellsOf l)) := by
      by_cases hl0 : l.length = 0
      · have : l = [] := List.eq_nil_of_length_eq_zero hl0
        subst this
        exact run_copy_none w2 22 22 3 5 _ a _ _ 0 cap Try.underlying22 size5 (Nat.zero_min _)
      · rcases unhide HB with h | ⟨b, o, rfl, hbl, hcl⟩
        · rw [h] at hl0; simp at hl0
        · have h1 := run_copy_cells (P := Try.prog) w2 22 22 3 5 g sk (8 * m - sk) (c1 - sk) ⟨b, o, none⟩ l.length cap (cellsOf l) Try.underlying22 size5 (by rw [cellsOf_length]; show _ = min _ _; omega)
            (fun j v hv => by
              obtain ⟨hj, rfl⟩ := cellsOf_get l j v hv
              rw [add_plain, hb12.cell (p := ⟨b, o + j, none⟩) hbl]
              exact hcl j hj)
            (fun j hj => by rw [cellsOf_length] at hj; rw [hgc (sk + j) (by omega)]; rfl) (fun j _ => hgf _) (cellsOf_one l)
          rw [cellsOf_length] at h1
          exact h1
    have hpb : Bytes (w2.setCells g sk (cellsOf l)) (some ⟨g, 0, none⟩) (patch U sk l) := by
      refine .inr ⟨g, 0, rfl, ?_, fun i hi => ?_⟩
      · have := (But.sets (B := [g]) g (by simp) (cellsOf l) sk w2 (But.refl _ _)).size
        omega
      · rw [patch_length, hUl] at hi
        rw [patch_at _ _ _ _ (by omega), Nat.zero_add]
        by_cases hin : sk ≤ i ∧ i < sk + l.length
        · rw [if_pos hin]
          have h1 := World.cell?_setCells_in g (cellsOf l) sk w2 (fun j hj => by rw [cellsOf_length] at hj; rw [hgc _ (by omega)]; rfl) (i - sk) (by rw [cellsOf_length]; omega)
          rw [show sk + (i - sk) = i by omega] at h1
          rw [h1]
          have h2 := cellsOf_at l (i - sk) (by omega)
          rw [List.getElem?_eq_getElem (by rw [cellsOf_length]; omega)] at h2
          exact h2
        · rw [if_neg hin, World.cell?_setCells_out g (cellsOf l) sk w2 ⟨g, i, none⟩ (fun _ _ => by show i < sk ∨ sk + (cellsOf l).length ≤ i; rw [cellsOf_length]; omega)]
          exact hgc i hi
    have hb3 : Below w.heap.size w (w2.setCells g sk (cellsOf l)) := below_setCells hgw _ _ hb12
    have HPP := hide (unhide HPK (some ⟨g, 0, none⟩) c1 _ hpb)
    obtain ⟨w3, hw3⟩ : ∃ w3, w3 = w2.setCells g sk (cellsOf l) := ⟨_, rfl⟩
    rw [← hw3] at hc1 hb3 HPP
    have HB3 := hide hb3
    have hscap : ¬ sk = c1 := by omega
    clear hown hb1 hb2 hb12 hg hs2 ht2 hm2 hn2 HUP HR hgc hgf hpb hb3 hw3
    go_wp2_with fail
    refine (unhide HPP).mono ?_
    rintro e w4 ⟨v, rfl, hv, hb4⟩
    have hb4' := (unhide HB3).trans (hb4.mono (unhide HB3).size)
    have hA := (unhide HH).below hb4'
    obtain ⟨a2, c2, rfl, hW⟩ := hv.shape
    rcases hW with h | ⟨b2, o2, rfl, hb2l, hcl2⟩
    · have := unhide HAL; rw [h] at this; simp at this; omega
    have hNl := unhide HAL
    have hms := unhide HMS
    have hc2 := run_copy_cells (P := Try.prog) w4 62 62 3 24 bw (k + 1 + r + from' / 8) m m ⟨b2, o2, none⟩ N.length c2 (wcells N) Try.underlying62 size36 (by rw [wcells_length]; show _ = min _ _; omega)
      (fun j v hv => by
        have hj : j < N.length := by have := (List.getElem?_eq_some_iff.1 hv).1; rwa [wcells_length] at this
        rw [wcells_at N j hj] at hv
        rw [add_plain, ← hv]
        exact hcl2 j hj)
      (fun j hj => by rw [wcells_length] at hj; rw [hA.ww _ (by omega)]; rfl) (fun j hj => by rw [wcells_length] at hj; exact hA.wf _ (by omega)) (wcells_one N)
    rw [wcells_length] at hc2
    have HE : Hid (Ar (w4.setCells bw (k + 1 + r + from' / 8) (wcells N)) p bw bh (patch ws (k + 1 + r + from' / 8) N) hs used ∧ But [bw] w (w4.setCells bw (k + 1 + r + from' / 8) (wcells N)) ∧ Written ws (patch ws (k + 1 + r + from' / 8) N) (k + 1 + r) s from' l) :=
      hide ⟨hA.puts _ N (by omega) (unhide HAT), But.sets bw (by simp) _ _ _ (But.of_below hb4'), unhide HWR hfit⟩
    generalize w4.setCells bw (k + 1 + r + from' / 8) (wcells N) = w5 at *
    rw [hNl] at hc2 ⊢
    clear hv hb4 hb4' hA hcl2 hms
    go_wp2
    go_ret
    exact ⟨_, rfl, unhide HE⟩
theorem setbytes_no {p bw bh : Nat} {ws : List Nat} {hs : List Bool} {used : Nat} (at' from' : Int) (a : Option Addr) (n cap : Nat) (w : World) (hf1 : from' ≤ 9223372036854775807) (hf2 : -9223372036854775808 ≤ from') (h : Ar w p bw bh ws hs used) (hh : Heads ws hs used) (f : Nat) (hf : f = spanErr ws hs used at' from' n) (hne : f ≠ 0) :
    Calls Try.prog 73 #[.pointer (some ⟨p, 0, none⟩), .int .i64 at', .int .i64 from', .slice a n cap] w fun e w' => e = .returned (.int .i64 f) ∧ Below w.heap.size w w' := by
  have HR := hide (run_no at' from' n w hf1 hf2 h hh f hf hne)
  have e1 : ((f : Int) == 0) = false := by rw [beq_eq_false_iff_ne]; omega
  clear h hh hf hne
  go_enter Try.func73, Try.ntmps73
  go_wp2_with fail
  refine (unhide HR).mono ?_
  rintro e w1 ⟨rfl, hb1⟩
  go_wp2
  go_ret
  exact ⟨rfl, hb1⟩
end Go.Proofs.Ytdgdnpgjbphgaab
