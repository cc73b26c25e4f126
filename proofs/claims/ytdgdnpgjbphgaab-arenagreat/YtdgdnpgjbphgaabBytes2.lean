/- Bytes of the program's block: what memory it gives. -/
import Derived.Test.YtdgdnpgjbphgaabBytes
import Derived.Test.YtdgdnpgjbphgaabSpan
namespace Go.Proofs.Ytdgdnpgjbphgaab
open Go.ChangeShapes Go.WideShapes Go.ChangeAt Go.RowKit
set_option linter.unusedVariables false
set_option maxRecDepth 100000
set_option maxHeartbeats 2000000

set_option maxHeartbeats 1000000 in
theorem unpack_exact (a : Option Addr) (cap n : Nat) (w : World) (ws : List Nat) (hn : n ≤ 281474976710656) (hle : Larder.wn n ≤ ws.length) (hW : Words w a ws) (hs : WSmall ws) :
    Calls Try.prog 69 #[.slice a ws.length cap, .int .i64 n] w fun e w' => e = .returned (.tuple #[.slice (some ⟨w.heap.size, 0, none⟩) n n, .int .i64 0]) ∧ OwnB w' w.heap.size (.slice (some ⟨w.heap.size, 0, none⟩) n n) (Larder.unpackL ws n) ∧ Below w.heap.size w w' := by
  obtain ⟨i0, hi, hz0, hz1, hz2⟩ := info_parts Try.info5
  have hwn : wordsI (n : Int) = (Larder.wn n : Int) := by unfold wordsI Larder.wn; split <;> omega
  have hcall : Calls Try.prog 86 #[.int .i64 n] w fun e w' => e = .returned (.int .i64 (Larder.wn n : Int)) ∧ w' = w := by rw [← hwn]; exact words_any n w (by omega) (by omega)
  have HC0 := hide hcall
  have HL := hide (Larder.unpackK_all ws n)
  clear hwn hcall
  obtain ⟨N, hN⟩ : ∃ N, N = Larder.wn n := ⟨_, rfl⟩
  rw [← hN] at HC0 hle
  have hN8 : n ≤ 8 * N := by rw [hN]; unfold Larder.wn; omega
  have hNn : N ≤ n := by rw [hN]; unfold Larder.wn; omega
  clear hN
  go_enter Try.func69, Try.ntmps69
  go_wp2_with fail
  refine (unhide HC0).mono ?_
  rintro e w' ⟨rfl, hw'⟩
  obtain rfl := hw'.symm
  go_wp2_with (at_make; refine wpList_make_full _ rfl _ _ 22 rfl w.heap.size 5 i0 (.int .u8 0) 1 Try.underlying22 hi hz0 hz1 .i64 .i64 _ _ n rfl rfl rfl rfl (by rw [hz2]; omega) (by simp [maxLen]; omega) (Nat.le_refl _) ?_)
  intro w1 hown hgrow
  have hb1 : Below w.heap.size w w1 := (Below.refl _ _).grown hgrow (Nat.le_refl _) (fun k h => by cases h)
  have hown1 : OwnB w1 w.heap.size (.slice (some ⟨w.heap.size, 0, none⟩) n n) (Larder.unpackK ws n 0) := by
    rw [made_cells] at hown
    unfold OwnB
    rw [Larder.unpackK_length, Larder.unpackK_zero, cellsOf, List.map_replicate]
    exact hown
  clear hown hgrow
  rcases hW with rfl | ⟨b, off, rfl, hblt, hc⟩
  · have hn0 : n = 0 := by simp at hle; omega
    subst hn0
    go_wp2_with fail
    go_loopw [20] (fun i wr => i = .int .i64 0 ∧ wr = w1) (fun _ _ => 0)
    case atStart => exact ⟨rfl, rfl⟩
    case round =>
      obtain ⟨rfl, rfl⟩ := hrel
      go_wp2
      go_ret2
      exact ⟨rfl, by rw [← unhide HL]; exact hown1, hb1⟩
  · go_wp2_with fail
    go_loopw [20] (fun i wr => ∃ k : Nat, k ≤ n ∧ i = .int .i64 k ∧ OwnB wr w.heap.size (.slice (some ⟨w.heap.size, 0, none⟩) n n) (Larder.unpackK ws n k) ∧ Below w.heap.size w wr) (fun i _ => n - (intOf i).toNat)
    case atStart => exact ⟨0, by omega, rfl, hown1, hb1⟩
    case round =>
      obtain ⟨k, hk, rfl, hwn, hbl⟩ := hrel
      by_cases hlt : k < n
      · obtain ⟨q, hq⟩ : ∃ q, q = k / 8 := ⟨_, rfl⟩
        obtain ⟨c, hcc⟩ : ∃ c, c = ws.getD q 0 := ⟨_, rfl⟩
        obtain ⟨sh, hsh⟩ : ∃ sh, sh = 8 * (k % 8) := ⟨_, rfl⟩
        have hlen := Larder.unpackK_length ws n k
        have hqn : q < ws.length := by omega
        have hcb : wr.cell? ⟨b, off + q, none⟩ = some (.int .u64 (c : Int)) := by
          rw [hbl.cell (p := ⟨b, off + q, none⟩) hblt, hc q hqn, hcc]
        have hc64 : c < 18446744073709551616 := by rw [hcc]; exact hs q hqn
        have hwn2 : wr.ownsRow w.heap.size 5 1 (.slice (some ⟨w.heap.size, 0, none⟩) n n) n (cellsOf (Larder.unpackK ws n k)) := by
          have := hwn; unfold OwnB at this; rw [hlen] at this; exact this
        have hcl : ∃ u, wr.cell? ⟨w.heap.size, k, none⟩ = some u := ⟨_, by rw [hwn2.cellAt _ (by omega), cellsOf_at _ _ (by omega)]⟩
        obtain ⟨u0, hu0⟩ := hcl
        have hfz : wr.frozen? ⟨w.heap.size, k, none⟩ = false := hwn2.frozenAt _
        have eq : (k : Int) / 8 = (q : Int) := by omega
        have hwq := wrap_nat q (by omega)
        have hsh64 : sh < 64 := by omega
        have hcall : ∀ wx : World, Calls Try.prog 87 #[.int .i64 k] wx fun e w' => e = .returned (.int .i64 (sh : Int)) ∧ w' = wx := by
          intro wx; rw [hsh]; exact byteAt_any k wx (by omega)
        have HW : Hid (OwnB (wr.setCell ⟨w.heap.size, k, none⟩ (.int .u8 ((c : Int) / 2 ^ sh % 256))) w.heap.size (.slice (some ⟨w.heap.size, 0, none⟩) n n) (Larder.unpackK ws n (k + 1))) := by
          rw [Larder.unpackK_succ, ← hq, ← hcc, ← hsh]
          have e : (c : Int) / 2 ^ sh % 256 = ((c / 2 ^ sh % 256 : Nat) : Int) := by simp
          rw [e]; exact own_put hlen hwn
        have HC := hide hcall
        clear hc hcc hq hs hcall hsh hlen hwn hwn2
        go_wp2_with fail
        go_region_with (go_at_call 87; refine (unhide HC _).mono ?_; rintro e w' ⟨rfl, hw'⟩; obtain rfl := hw'.symm)
        all_goals go_wp2
        all_goals
          go_roundw
          case rel => exact ⟨k + 1, by omega, by go_num, unhide HW, (hbl.setCell (p := ⟨w.heap.size, k, none⟩) (Nat.le_refl _) _).drew⟩
          case measure => simp [intOf]; omega
      · have hkl : k = n := by omega
        subst hkl
        go_wp2
        go_ret2
        exact ⟨rfl, by rw [← unhide HL]; exact hwn, hbl⟩
theorem bytes_span {p bw bh : Nat} {ws : List Nat} {hs : List Bool} {used : Nat} (k from' n : Nat) (w : World) (h : Ar w p bw bh ws hs used) (hh : Heads ws hs used) (he : (objRes ws hs used k).2.2.2 = 0) (hn : from' + n ≤ 8 * (objRes ws hs used k).2.2.1) :
    Calls Try.prog 29 #[.pointer (some ⟨p, 0, none⟩), .int .i64 k, .int .i64 from', .int .i64 n] w fun e w' => ∃ a cap, e = .returned (.tuple #[.slice a n cap, .int .i64 0]) ∧ Span w' 5 (.slice a n cap) n (fun i => .int .u8 (rawByte ws (k + 1 + (objRes ws hs used k).2.1) (from' + i) : Nat)) ∧ (∀ g, Value.ownBlock (.slice a n cap) = some g → w.heap.size ≤ g) ∧ Below w.heap.size w w' := by
  have HR := hide (run_yes k from' n w h hh he hn)
  have hu := h.u2
  have hz := h.sz
  have hs24 := obj_raws ws hs used k
  generalize (objRes ws hs used k).2.1 = r at *
  generalize (objRes ws hs used k).2.2.1 = s at *
  obtain ⟨m, hm⟩ : ∃ m, m = Larder.wn (from' + n) - from' / 8 := ⟨_, rfl⟩
  have hms : from' / 8 + m ≤ s := by rw [hm]; unfold Larder.wn; omega
  have hmw : Larder.wn (from' % 8 + n) ≤ m := by rw [hm]; unfold Larder.wn; omega
  have HUP : Hid (∀ off w1, Below w.heap.size w w1 → k + 1 + r + s ≤ used → (0 < m → off = k + 1 + r + from' / 8) → Calls Try.prog 69 #[.slice (some ⟨bw, off, none⟩) m m, .int .i64 ((from' % 8 + n : Nat) : Int)] w1 fun e w' => e = .returned (.tuple #[.slice (some ⟨w1.heap.size, 0, none⟩) (from' % 8 + n) (from' % 8 + n), .int .i64 0]) ∧ OwnB w' w1.heap.size (.slice (some ⟨w1.heap.size, 0, none⟩) (from' % 8 + n) (from' % 8 + n)) (Larder.unpackL (runL ws (k + 1 + r + from' / 8) m) (from' % 8 + n)) ∧ Below w1.heap.size w1 w') := hide (fun off w1 hb hfit ho => by
    obtain ⟨h1, h2⟩ := (h.below hb).run off (k + 1 + r + from' / 8) m ho (by omega)
    have h3 := unpack_exact (some ⟨bw, off, none⟩) m (from' % 8 + n) w1 (runL ws (k + 1 + r + from' / 8) m) (by omega) (by rw [runL_length]; exact hmw) h1 h2
    rw [runL_length] at h3
    exact h3)
  have HGET : Hid (∀ i, i < n → (Larder.unpackL (runL ws (k + 1 + r + from' / 8) m) (from' % 8 + n)).getD (from' % 8 + i) 0 = rawByte ws (k + 1 + r) (from' + i)) := hide (fun i hi => by rw [hm]; exact unpack_run ws (k + 1 + r) from' n i hi)
  have hUL := Larder.unpackL_length (runL ws (k + 1 + r + from' / 8) m) (from' % 8 + n)
  rw [← hm] at HR
  generalize Larder.unpackL (runL ws (k + 1 + r + from' / 8) m) (from' % 8 + n) = U at *
  obtain ⟨sk, hsk⟩ : ∃ sk, sk = from' % 8 := ⟨_, rfl⟩
  have hmod : (from' : Int) % 8 = (sk : Int) := by omega
  have htmod : (from' : Int).tmod 8 = (sk : Int) := by rw [Int.tmod_eq_emod_of_nonneg (by omega)]; exact hmod
  rw [← hsk] at HUP HGET hUL
  have hsk8 : sk < 8 := by omega
  rw [show ((sk + n : Nat) : Int) = (sk : Int) + (n : Int) from by omega] at HUP
  have HUL := hide hUL
  have hn31 : n ≤ 134217728 := by omega
  clear h hh he hm hsk hmw hms hUL
  go_enter Try.func29, Try.ntmps29
  go_wp2_with fail
  refine (unhide HR).mono ?_
  rintro e w1 ⟨⟨off, rfl, hoff⟩, hb1, hfit⟩
  have HC := hide (unhide HUP off w1 hb1 hfit hoff)
  clear hoff
  go_wp2_with fail
  refine (unhide HC).mono ?_
  rintro e w2 ⟨rfl, hown, hb2⟩
  have HB2 := hide (hb1.trans (hb2.mono hb1.size))
  have HS1 := hide hb1.size
  have hUl := unhide HUL
  rcases hown.2 with ⟨hnil, _⟩ | ⟨g, cap, cur, hval, hbb, hg, hn2, hm2, hs2, ht2⟩
  · cases hnil
  · simp only [Value.slice.injEq, Option.some.injEq, Addr.mk.injEq] at hval
    obtain ⟨⟨hgw, _⟩, hx1, hcp⟩ := hval
    subst hcp
    clear hx1
    have HCL : Hid (∀ i, i < n → cur[sk + i]? = some (.int .u8 (rawByte ws (k + 1 + r) (from' + i) : Nat))) := hide (fun i hi => by
      rw [← unhide HGET i hi]
      have e1 := cellsOf_at U (sk + i) (by omega)
      rw [← ht2, List.getElem?_take, if_pos (by omega)] at e1
      simpa using e1)
    have HG := hide hg
    have HSZ := hide hs2
    have HGW : Hid (w1.heap.size = g) := hide hgw
    have HM : Hid (n ≤ maxLen) := hide (by unfold maxLen; omega)
    clear hown hb1 hb2 hg hs2 ht2 hm2 hn2 HUP HR hgw hUl hbb
    rw [unhide HGW]
    by_cases hn0 : n = 0
    · subst hn0
      have z1 : (0 : Int) ≤ (sk : Int) := by omega
      go_wp2
      all_goals
        go_ret2
        refine ⟨_, _, rfl, .inr (.inr ⟨g, _, rfl, rfl, unhide HG⟩), fun q hq => ?_, unhide HB2⟩
        have e1 : g = q := by simpa [Value.ownBlock] using hq
        have := unhide HS1
        have := unhide HGW
        omega
    · have hsc : ¬ sk = sk + n := by omega
      go_wp2
      go_ret2
      refine ⟨some ⟨g, sk, none⟩, n, ?_, ?_, fun q hq => ?_, unhide HB2⟩
      · first | rfl | (show Ending.returned (.tuple #[.slice (some ⟨g, sk, none⟩) (sk + n - sk) (sk + n - sk), .int .i64 0]) = _; rw [Nat.add_sub_cancel_left])
      · have hz := unhide HSZ
        by_cases hs0 : sk = 0
        · subst hs0
          refine .inl (.inr ⟨g, n, cur, rfl, unhide HG, Nat.le_refl _, unhide HM, by omega, fun i hi => ?_⟩)
          have := unhide HCL i hi
          rwa [Nat.zero_add] at this
        · exact .inr (.inl ⟨g, sk, cur, hs0, rfl, unhide HG, unhide HM, by omega, fun i hi => unhide HCL i hi⟩)
      · have e1 : g = q := by simpa [Value.ownBlock] using hq
        have := unhide HS1
        have := unhide HGW
        omega
end Go.Proofs.Ytdgdnpgjbphgaab
