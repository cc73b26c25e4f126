/- The document's Channels. -/
import Derived.Test.YtjmnddcombepaaaHpb
import Derived.Test.YtjmnddcombepaaaPoz
import Derived.Test.YtjmnddcombepaaaDk
import Derived.Test.YtjmnddcombepaaaRpf
namespace Go.Proofs.Ytjmnddcombepaaa
open Go.ChangeShapes Go.WideShapes Go.ChangeAt Go.RowKit Go.Maps Go.Sort
set_option linter.unusedVariables false
set_option linter.unusedSimpArgs false
set_option maxRecDepth 100000
set_option maxHeartbeats 8000000
theorem bs_eq (T U : List UInt8) : ((bs T).toList == (bs U).toList) = decide (T = U) := by
  have e3 : ∀ T : List UInt8, (bs T).toList = T := fun T => by unfold bs; rw [ByteArray.toList_mk]
  rw [e3, e3]
  by_cases h : T = U
  · rw [h, beq_self_eq_true, decide_eq_true rfl]
  · rw [decide_eq_false h]; simpa using h
theorem glob_two (G : List UInt8 → List UInt8 → Bool) (hG : GlobIs G) (W : World) (a1 a2 : Option Addr) (c1 c2 : Nat) (P T : List UInt8) (hP : P.length ≤ 1073741824) (hT : T.length ≤ 140737488355328) (h1 : Bytes W a1 (nb P)) (h2 : Bytes W a2 (nb T)) :
    Calls Try.prog 22 #[.slice a1 P.length c1, .slice a2 T.length c2] W fun e w' => e = .returned (.bool (G P T)) ∧ Hid (Below W.heap.size W w') := by
  have h := glob_any a1 a2 c1 c2 W (nb P) (nb T) (by rw [nb_len]; exact hP) (by rw [nb_len]; exact hT) (nb_small P) (nb_small T) h1 h2
  rw [nb_len, nb_len] at h
  refine h.mono ?_
  rintro e w' ⟨r, rfl, hr, hb⟩
  have e1 : r = G P T := by rw [Bool.eq_iff_iff, hr, hG P T]
  exact ⟨by rw [e1], hide hb⟩
theorem hears_any (G : List UInt8 → List UInt8 → Bool) (hG : GlobIs G) (w : World) (x : Sv) (T : List UInt8) (hx : Named w x) (hl : x.1.2.1.length ≤ 4096) (hT : T.length ≤ 140737488355328) :
    Calls Try.prog 19 #[.agg #[.int .i64 x.1.1, .slice x.2.1 x.1.2.1.length x.2.2, .bool x.1.2.2], .string (bs T)] w fun e w' => e = .returned (.bool (heardB G T x.1)) ∧ Hid (Below w.heap.size w w') := by
  obtain ⟨⟨c, N, p⟩, a, cap⟩ := x
  simp only [Named] at hx hl ⊢
  have hb : Below w.heap.size w (w.alloc (.cells #[.int .i64 c, .slice a N.length cap, .bool p] 40)) := (Below.refl _ _).alloc (Nat.le_refl _) _
  have hx1 := hx.below hb
  cases p with
  | false =>
    have R1 := conv_back _ a cap N hx1
    have f1 := bs_eq N T
    have HB := hide hb
    have e0 : heardB G T (c, N, false) = decide (N = T) := by unfold heardB; simp
    rw [e0]
    generalize N.length = n at *
    generalize decide (N = T) = B at *
    clear hx hx1 hb e0
    go_enter Try.func19, Try.ntmps19
    go_wp2_with fail
    go_ret
    exact ⟨rfl, HB⟩
  | true =>
    have e0 : heardB G T (c, N, true) = G N T := by unfold heardB; simp
    rw [e0]
    have HX := hide hx1
    have y1 : (w.alloc (.cells #[.int .i64 c, .slice a N.length cap, .bool true] 40)).cell? ⟨w.heap.size, 1, none⟩ = some (.slice a N.length cap) := cell_blk (heap_alloc_new _ _) 1
    have y2 : (w.alloc (.cells #[.int .i64 c, .slice a N.length cap, .bool true] 40)).cell? ⟨w.heap.size, 2, none⟩ = some (.bool true) := cell_blk (heap_alloc_new _ _) 2
    have HB := hide hb
    obtain ⟨w1, hw1⟩ : ∃ w1, w.alloc (.cells #[.int .i64 c, .slice a N.length cap, .bool true] 40) = w1 := ⟨_, rfl⟩
    rw [hw1] at HX HB y1 y2
    obtain ⟨c1, w2, r1, k1⟩ := conv_txt w1 T
    have k2 := unhide k1
    have C22 := hide ((glob_two G hG w2 a (some ⟨w1.heap.size, 0, none⟩) cap c1 N T (by omega) hT ((unhide HX).below k2.2.1) (bytes_of (by rw [k2.2.2]; omega) k2.1)).mono (R' := fun e w' => e = .returned (.bool (G N T)) ∧ Hid (Below w.heap.size w w')) (fun e w' h => ⟨h.1, hide ((unhide HB).trans ((k2.2.1.trans ((unhide h.2).mono k2.2.1.size)).mono (unhide HB).size))⟩))
    generalize G N T = B at *
    generalize N.length = n at *
    generalize T.length = m at *
    clear hx hx1 hb e0 HX k1 k2
    go_enter Try.func19, Try.ntmps19
    go_wp2_with (go_at_call 22; refine (unhide C22).mono ?_; rintro e w3 ⟨rfl, k3⟩)
    go_ret
    exact ⟨rfl, k3⟩
theorem ahead_any (w : World) (x y : Hit) (h : ltH x y) :
    Calls Try.prog 20 #[.int .i64 x.1, .bool x.2.1, .string (bs x.2.2), .int .i64 y.1, .bool y.2.1, .string (bs y.2.2)] w fun e w' => e = .returned (.bool true) ∧ w' = w := by
  obtain ⟨c, p, N⟩ := x
  obtain ⟨c', p', N'⟩ := y
  have e3 : ∀ T : List UInt8, (bs T).toList = T := fun T => by unfold bs; rw [ByteArray.toList_mk]
  dsimp only
  rcases h with h | ⟨h0, h | ⟨h1, h2⟩⟩
  · have f1 : (c != c') = true := by dsimp only at h; simp; omega
    have f2 : decide (c < c') = true := decide_eq_true h
    clear h
    go_enter Try.func20, Try.ntmps20
    go_wp2
    go_ret
    exact ⟨rfl, rfl⟩
  · obtain ⟨h1, h2⟩ := h
    dsimp only at h0 h1 h2
    subst h0
    subst h1
    subst h2
    have f1 : (c != c) = false := bne_self_eq_false _
    go_enter Try.func20, Try.ntmps20
    go_wp2
    go_ret
    exact ⟨rfl, rfl⟩
  · dsimp only at h0 h1 h2
    subst h0
    subst h1
    have f1 : (c != c) = false := bne_self_eq_false _
    have f2 : (p != p) = false := bne_self_eq_false _
    have f3 : Op.bytesLess N N' = true := by rw [bytesLess_eq]; exact decide_eq_true h2
    clear h2
    go_enter Try.func20, Try.ntmps20
    go_wp2
    go_ret
    exact ⟨rfl, rfl⟩
end Go.Proofs.Ytjmnddcombepaaa
namespace Go.Proofs.Ytjmnddcombepaaa
open Go.ChangeShapes Go.WideShapes Go.ChangeAt Go.RowKit Go.Maps
set_option linter.unusedVariables false
set_option linter.unusedSimpArgs false
set_option maxRecDepth 100000
set_option maxHeartbeats 8000000
/-- the document's Glob, of texts -/
theorem dglob_any (G : List UInt8 → List UInt8 → Bool) (hG : GlobIs G) (W : World) (a1 a2 : Option Addr) (c1 c2 : Nat) (P T : List UInt8) (hP : P.length ≤ 1073741824) (hT : T.length ≤ 1073741824) (h1 : Bytes W a1 (nb P)) (h2 : Bytes W a2 (nb T)) :
    Calls Try.prog 68 #[.slice a1 P.length c1, .slice a2 T.length c2] W fun e w' => e = .returned (.bool (G P T)) ∧ Hid (Below W.heap.size W w') := by
  have h := rglob_any a1 a2 c1 c2 W (nb P) (nb T) (by rw [nb_len]; exact hP) (by rw [nb_len]; exact hT) (nb_small P) (nb_small T) h1 h2
  rw [nb_len, nb_len] at h
  refine h.mono ?_
  rintro e w' ⟨r, rfl, hr, hb⟩
  have e1 : r = G P T := by rw [Bool.eq_iff_iff, hr, hG P T]
  exact ⟨by rw [e1], hide hb⟩
theorem chan_tx (G : List UInt8 → List UInt8 → Bool) (L : List Key) (P : List UInt8) : textsL L (fun k => !k.2.2 && G P k.2.1) = chanL G L P := by
  refine inc_ext (textsL_inc L _).1 (chanL_inc G L P) (fun x => ?_)
  rw [mem_chanL, mem_textsL]
  constructor
  · rintro ⟨⟨c, T, q⟩, hk, hp, rfl⟩
    simp only [Bool.and_eq_true, Bool.not_eq_true'] at hp
    obtain ⟨rfl, h2⟩ := hp
    exact ⟨⟨c, hk⟩, h2⟩
  · rintro ⟨⟨c, hc⟩, h2⟩
    exact ⟨(c, x, false), hc, by simp [h2], rfl⟩
theorem dchannels_any (G : List UInt8 → List UInt8 → Bool) (hG : GlobIs G) (w : World) (q : Nat) (L : List Key) (P : List UInt8) (hPl : P.length ≤ 1073741824) (h : RP w q L) (hL : L.length ≤ 500000) (hT : ∀ k ∈ L, k.2.1.length ≤ 4096) :
    Calls Try.prog 54 #[.pointer (some ⟨q, 0, none⟩), .string (bs P)] w (SEnd w (chanL G L P)) := by
  obtain ⟨v, h⟩ := h
  obtain ⟨i0, hi0, hz0, hz1, hz2⟩ := info_parts4 info23
  obtain ⟨a, cap, rfl⟩ := h.row.shape
  obtain ⟨n, hn⟩ : ∃ n, n = L.length := ⟨_, rfl⟩
  have HR : Hid (∀ i x, L[i]? = some x → ∃ b, a = some ⟨b, 0, none⟩ ∧ b < w.heap.size ∧ w.cell? ⟨b, i * 3, none⟩ = some (.int .i64 x.1) ∧ w.cell? ⟨b, i * 3 + 1, none⟩ = some (.string (bs x.2.1)) ∧ w.cell? ⟨b, i * 3 + 2, none⟩ = some (.bool x.2.2)) := hide fun i x hx => by
    obtain ⟨g, cp, e, k0, k1, k2⟩ := h.at hx
    cases e
    exact ⟨g, rfl, h.row.lt g rfl, k0, k1, k2⟩
  have HH : Hid (q < w.heap.size ∧ w.heap[q]? = some (.cells #[.slice a n cap] 99 (0, 0))) := by rw [hn]; exact hide ⟨h.lt, h.cell⟩
  have HN := hide hn
  have hn5 : n ≤ 500000 := by omega
  have HT := hide hT
  have CS : Hid (∀ W a n c, OutT w W (.slice a n c) (txF L (fun k => !k.2.2 && G P k.2.1)) → Calls Try.prog 69 #[.slice a n c] W (SEnd w (chanL G L P))) := hide (fun W a n c' hO => by rw [← chan_tx]; exact dsort_tx hO hL hT)
  clear h hn hL hT
  go_enter Try.func54, Try.ntmps54
  go_wp2_with fail
  go_loopw [5, 6] (fun lv iv wr => ∃ (i m : Nat) (a' : Option Addr) (c' : Nat), lv = .slice a' m c' ∧ iv = .int .i64 ((i : Nat) : Int) ∧ i ≤ n ∧ m ≤ i ∧ Hid (m = (txF (L.take i) (fun k => !k.2.2 && G P k.2.1)).length) ∧ Hid (OutT w wr (.slice a' m c') (txF (L.take i) (fun k => !k.2.2 && G P k.2.1)))) (fun _ iv _ => n - (intOf iv).toNat)
  case atStart => exact ⟨0, 0, none, 0, rfl, rfl, Nat.zero_le _, Nat.le_refl _, hide rfl, hide (OutT.nil w)⟩
  case round =>
    obtain ⟨i, m, a', c', rfl, rfl, hi, hm, HL, HB⟩ := hrel
    have c0 : wr.cell? ⟨q, 0, none⟩ = some (.slice a n cap) := by
      obtain ⟨l0, l1⟩ := unhide HH
      exact ((unhide HB).nw.bel.cell (p := ⟨q, 0, none⟩) l0).trans (cell_blk l1 0)
    by_cases hin : i < n
    · have f1 : decide ((i : Int) < (n : Int)) = true := decide_eq_true (by omega)
      have f9 : decide (i < n) = true := decide_eq_true (by omega)
      have g1 : (0 : Int) ≤ (i : Int) := by omega
      have g2 : (i : Int) < (n : Int) := by omega
      obtain ⟨⟨kc, kt, kp⟩, hx⟩ : ∃ x, L[i]? = some x := ⟨_, List.getElem?_eq_getElem (by have := unhide HN; omega)⟩
      obtain ⟨b, rfl, hb, k0, k1, k2⟩ := (unhide HR) i _ hx
      have ht : L.take (i + 1) = L.take i ++ [(kc, kt, kp)] := by rw [List.take_add_one, hx]; rfl
      have hs := txF_snoc (L.take i) (kc, kt, kp) (fun k => !k.2.2 && G P k.2.1)
      rw [← ht] at hs
      have HS := hide hs
      have k0 := ((unhide HB).nw.bel.cell (p := ⟨b, i * 3, none⟩) hb).trans k0
      have k1 := ((unhide HB).nw.bel.cell (p := ⟨b, i * 3 + 1, none⟩) hb).trans k1
      have k2 := ((unhide HB).nw.bel.cell (p := ⟨b, i * 3 + 2, none⟩) hb).trans k2
      have HMem := hide (List.mem_of_getElem? hx)
      clear hs ht hx
      obtain ⟨M2, e2⟩ : ∃ M2, txF (L.take (i + 1)) (fun k => !k.2.2 && G P k.2.1) = M2 := ⟨_, rfl⟩
      have HE2 := hide e2
      rw [e2] at HS
      clear e2
      generalize txF (L.take i) (fun k => !k.2.2 && G P k.2.1) = M at HL HB HS
      cases kp with
      | true =>
        have HS2 : Hid (M2 = M) := hide (by rw [unhide HS]; simp)
        clear HS
        go_wp2_with fail
        exact ⟨⟨i + 1, m, a', c', rfl, congrArg (Value.int .i64) (by omega), by omega, by omega, hide (by rw [unhide HE2, unhide HS2]; exact unhide HL), (by rw [unhide HE2, unhide HS2]; exact HB)⟩, by simp [intOf]; omega⟩
      | false =>
        have hbw := Nat.lt_of_lt_of_le hb (unhide HB).nw.bel.size
        have hqw := Nat.lt_of_lt_of_le (unhide HH).1 (unhide HB).nw.bel.size
        obtain ⟨c1, wc1, hcv1, HC1⟩ := conv_txt wr P
        obtain ⟨c2, wc2, hcv2, HC2⟩ := conv_txt wc1 kt
        have x0 := ((unhide HC1).2.1.cell (p := ⟨q, 0, none⟩) hqw).trans c0
        have x1 := ((unhide HC1).2.1.cell (p := ⟨b, i * 3 + 1, none⟩) hbw).trans k1
        have HB2 := hide ((unhide HC1).2.1.trans ((unhide HC2).2.1.mono (unhide HC1).2.1.size))
        have C68 := dglob_any G hG wc2 (some ⟨wr.heap.size, 0, none⟩) (some ⟨wc1.heap.size, 0, none⟩) c1 c2 P kt hPl (Nat.le_trans ((unhide HT) _ (unhide HMem)) (by decide)) ((bytes_of (g := wr.heap.size) (by have := (unhide HC1).2.2; omega) (unhide HC1).1).below' (unhide HC2).2.1) (bytes_of (g := wc1.heap.size) (by have := (unhide HC2).2.2; omega) (unhide HC2).1)
        cases hg : G P kt with
        | false =>
          rw [hg] at C68
          have HS2 : Hid (M2 = M) := hide (by rw [unhide HS]; simp [hg])
          clear HS hg
          go_wp2_with (first | (go_at_call 68; refine C68.mono ?_; clear C68; rintro e w3 ⟨rfl, H3⟩))
          exact ⟨⟨i + 1, m, a', c', rfl, congrArg (Value.int .i64) (by omega), by omega, by omega, hide (by rw [unhide HE2, unhide HS2]; exact unhide HL), (by rw [unhide HE2, unhide HS2]; exact hide ((unhide HB).below ((unhide HB2).trans ((unhide H3).mono (unhide HB2).size))))⟩, by simp [intOf]; omega⟩
        | true =>
          rw [hg] at C68
          have HS2 : Hid (M2 = M ++ [kt]) := hide (by rw [unhide HS]; simp [hg])
          clear HS hg
          obtain ⟨f, HRf, HF⟩ : ∃ f, Hid (Rws wr 23 1 (.slice a' m c') m f) ∧ Hid (∀ t T, M[t]? = some T → ∃ ai ci, f t = .slice ai T.length ci ∧ Bytes wr ai (nb T) ∧ (nb T ≠ [] → ∀ b off, ai = some ⟨b, off, none⟩ → (Value.slice a' m c').ownBlock ≠ some b)) := by
            obtain ⟨f, q1, q2⟩ := (unhide HB).row
            exact ⟨f, hide (by rw [← unhide HL] at q1; exact q1), hide q2⟩
          go_wp2_with (first
            | (go_at_call 68; refine C68.mono ?_; clear C68; rintro e w3 ⟨rfl, H3⟩; have HK := hide ((unhide HB2).trans ((unhide H3).mono (unhide HB2).size)); have y0 := ((unhide HK).cell (p := ⟨q, 0, none⟩) hqw).trans c0; have y1 := ((unhide HK).cell (p := ⟨b, i * 3 + 1, none⟩) hbw).trans k1; obtain ⟨cc, wc, hcv, HC⟩ := conv_txt w3 kt; have HA := hide (((unhide HK).trans ((unhide HC).2.1.mono (unhide HK).size)).alloc (Nat.le_trans (unhide HK).size (unhide HC).2.1.size) (.cells #[.slice (some ⟨w3.heap.size, 0, none⟩) kt.length cc] 23)); have HBy : Hid (Bytes (wc.alloc (.cells #[.slice (some ⟨w3.heap.size, 0, none⟩) kt.length cc] 23)) (some ⟨w3.heap.size, 0, none⟩) (nb kt)) := hide ((bytes_of (g := w3.heap.size) (by have := (unhide HC).2.2; omega) (unhide HC).1).below' ((Below.refl _ _).alloc (Nat.le_refl _) _)); have HGl : Hid (w3.heap.size < (wc.alloc (.cells #[.slice (some ⟨w3.heap.size, 0, none⟩) kt.length cc] 23)).heap.size) := hide (by have := (unhide HC).2.2; simp; omega))
            | (at_builtin; refine append_rws rfl _ _ 115 rfl 23 i0 _ 1 24 Try.underlying115 hi0 hz0 hz1 hz2 rfl 23 (.slice a' m c') m f rfl ((unhide HRf).below (unhide HA)) (.inl rfl) wc.heap.size 1 rfl [.slice (some ⟨w3.heap.size, 0, none⟩) kt.length cc] (by decide) rfl (made_cells wc [.slice (some ⟨w3.heap.size, 0, none⟩) kt.length cc] 23) (by simp [Value.oneCell']) (by omega) (by omega) ?_; intro v5 w5 h5 k5; obtain ⟨a5, c5, rfl⟩ := h5.shape; have S5 := hide (OutT.push (T := kt) (unhide HL) (unhide HB) (unhide HA) (unhide HK).size (unhide HBy) (unhide HGl) (unhide HRf) (unhide HF) h5 k5); clear h5 k5; go_frame))
          exact ⟨⟨i + 1, m + 1, a5, c5, rfl, congrArg (Value.int .i64) (by omega), by omega, by omega, hide (by rw [unhide HE2, unhide HS2, List.length_append, ← unhide HL]; rfl), (by rw [unhide HE2, unhide HS2]; exact S5)⟩, by simp [intOf]; omega⟩
    · obtain rfl : n = i := by omega
      have f1 : decide ((n : Int) < (n : Int)) = false := decide_eq_false (by omega)
      have f9 : decide (n < n) = false := decide_eq_false (by omega)
      have ht : L.take n = L := List.take_of_length_le (by have := unhide HN; omega)
      rw [ht] at HB
      have C69 := (unhide CS) wr a' m c' (unhide HB)
      unfold SEnd at C69 ⊢
      clear ht
      go_wp2_with (go_at_call 69; refine C69.mono ?_; clear C69; rintro e w5 ⟨a5, n5, c5, rfl, H5⟩)
      go_ret
      exact ⟨a5, n5, c5, rfl, H5⟩
end Go.Proofs.Ytjmnddcombepaaa
