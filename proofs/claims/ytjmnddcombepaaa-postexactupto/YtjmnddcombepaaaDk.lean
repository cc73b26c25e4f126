/- The document's Names, Patterns. -/
import Derived.Test.YtjmnddcombepaaaDj
namespace Go.Proofs.Ytjmnddcombepaaa
open Go.ChangeShapes Go.WideShapes Go.ChangeAt Go.RowKit Go.Maps
set_option linter.unusedVariables false
set_option linter.unusedSimpArgs false
set_option maxRecDepth 100000
set_option maxHeartbeats 8000000
/-- the texts of the names that are asked for, in the order of their joining -/
def txF (L : List Key) (pr : Key → Bool) : List (List UInt8) := (L.filter pr).map (fun k => k.2.1)
theorem txF_snoc (L : List Key) (k : Key) (pr : Key → Bool) : txF (L ++ [k]) pr = txF L pr ++ (if pr k = true then [k.2.1] else []) := by
  unfold txF
  rw [List.filter_append, List.map_append]
  cases h : pr k <;> simp [h]
theorem txF_len (L : List Key) (pr : Key → Bool) : (txF L pr).length ≤ L.length := by
  unfold txF
  rw [List.length_map]
  exact List.length_filter_le _ _
theorem txF_mem {L : List Key} {pr : Key → Bool} {T : List UInt8} (h : T ∈ txF L pr) : ∃ k ∈ L, pr k = true ∧ k.2.1 = T := by
  obtain ⟨k, hk, e⟩ := List.mem_map.1 h
  exact ⟨k, (List.mem_filter.1 hk).1, (List.mem_filter.1 hk).2, e⟩
theorem mem_txL {L : List Key} {pr : Key → Bool} {T : List UInt8} : T ∈ textsL L pr ↔ T ∈ txF L pr := by
  constructor
  · intro h
    obtain ⟨k, hk, hp, rfl⟩ := textsL_sub h
    exact List.mem_map_of_mem (List.mem_filter.2 ⟨hk, hp⟩)
  · intro h
    obtain ⟨k, hk, hp, rfl⟩ := txF_mem h
    exact (textsL_inc L pr).2 k hk hp
/-- bytes whose block is as it was -/
theorem Bytes.block {w w' : World} {a : Option Addr} {l : List Nat} (h : Bytes w a l) (hs : w.heap.size ≤ w'.heap.size) (hb : l ≠ [] → ∀ b off, a = some ⟨b, off, none⟩ → b < w.heap.size → w'.heap[b]? = w.heap[b]?) : Bytes w' a l := by
  rcases h with h | ⟨b, off, e, hl, hc⟩
  · exact .inl h
  · by_cases h0 : l = []
    · exact .inl h0
    · refine .inr ⟨b, off, e, Nat.lt_of_lt_of_le hl hs, fun i hi => ?_⟩
      rw [← hc i hi]
      unfold World.cell?
      rw [hb h0 b off e hl]
/-- a list of texts that is being made, in new memory -/
structure OutT (w W : World) (v : Value) (M : List (List UInt8)) : Prop where
  nw : Nw w W v
  row : ∃ f, Rws W 23 1 v M.length f ∧ ∀ t T, M[t]? = some T → ∃ ai ci, f t = .slice ai T.length ci ∧ Bytes W ai (nb T) ∧ (nb T ≠ [] → ∀ b off, ai = some ⟨b, off, none⟩ → v.ownBlock ≠ some b)
theorem OutT.nil (w : World) : OutT w w (.slice none 0 0) [] := ⟨Nw.nil w, fun _ => undef, .inl ⟨rfl, rfl⟩, fun t T h => by simp at h⟩
theorem OutT.shape {w W : World} {v : Value} {M : List (List UInt8)} (h : OutT w W v M) : ∃ a c, v = .slice a M.length c := by
  obtain ⟨f, h1, -⟩ := h.row
  exact h1.shape
theorem OutT.below {w W W' : World} {v : Value} {M : List (List UInt8)} (h : OutT w W v M) (hb : Below W.heap.size W W') : OutT w W' v M := by
  obtain ⟨f, h1, h2⟩ := h.row
  refine ⟨h.nw.on hb, f, h1.below hb, fun t T hT => ?_⟩
  obtain ⟨ai, ci, q1, q2, q3⟩ := h2 t T hT
  exact ⟨ai, ci, q1, q2.below' hb, q3⟩
theorem OutT.push {w W W3 W' : World} {v v' : Value} {M : List (List UInt8)} {m g c cc : Nat} {T : List UInt8} {f : Nat → Value} (hm : m = M.length) (h : OutT w W v M) (hb : Below W.heap.size W W3) (hg : W.heap.size ≤ g) (hB : Bytes W3 (some ⟨g, 0, none⟩) (nb T)) (hgl : g < W3.heap.size)
    (hr : Rws W 23 1 v m f) (hf : ∀ t T, M[t]? = some T → ∃ ai ci, f t = .slice ai T.length ci ∧ Bytes W ai (nb T) ∧ (nb T ≠ [] → ∀ b off, ai = some ⟨b, off, none⟩ → v.ownBlock ≠ some b))
    (h5 : Rws W' 23 1 v' (m + 1) (fun k => if k < m * 1 then f k else [Value.slice (some ⟨g, 0, none⟩) T.length c].getD (k - m * 1) undef)) (k5 : Gr 23 cc 1 W3 W' v v') : OutT w W' v' (M ++ [T]) := by
  subst hm
  have hvl : ∀ b, v.ownBlock = some b → b < W.heap.size := hr.lt
  have key : ∀ (ai : Option Addr) (U : List UInt8), Bytes W3 ai (nb U) → (nb U ≠ [] → ∀ b off, ai = some ⟨b, off, none⟩ → v.ownBlock ≠ some b) → Bytes W' ai (nb U) ∧ (nb U ≠ [] → ∀ b off, ai = some ⟨b, off, none⟩ → v'.ownBlock ≠ some b) := fun ai U q2 q3 => by
    refine ⟨q2.block k5.size (fun h0 b off e hb2 => k5.other b hb2 (q3 h0 b off e)), fun h0 b off e => ?_⟩
    rcases k5.how with ⟨g', cur, cur', z1, z2, -⟩ | ⟨z2, -⟩
    · rw [z2, ← z1]; exact q3 h0 b off e
    · rw [z2]
      intro e2
      cases e2
      rcases q2 with z | ⟨b', off', e', hl, -⟩
      · exact h0 z
      · rw [e] at e'; cases e'; omega
  refine ⟨(h.nw.on hb).ga (.inr k5), _, by rw [List.length_append]; exact h5, fun t U hU => ?_⟩
  rcases Nat.lt_or_ge t M.length with ht | ht
  · rw [List.getElem?_append_left ht] at hU
    simp only [Nat.mul_one, if_pos ht]
    obtain ⟨ai, ci, q1, q2, q3⟩ := hf t U hU
    exact ⟨ai, ci, q1, key ai U (q2.below' hb) q3⟩
  · rw [List.getElem?_append_right ht] at hU
    have h0 : t - M.length = 0 := by
      have := (List.getElem?_eq_some_iff.1 hU).1
      simp at this; omega
    rw [h0] at hU
    cases hU
    simp only [Nat.mul_one, if_neg (Nat.not_lt.2 ht), h0]
    refine ⟨_, c, rfl, key _ T hB (fun _ b off e e2 => ?_)⟩
    cases e
    have := hvl _ e2
    omega
theorem OutT.done {w W : World} {a : Option Addr} {n c : Nat} {M : List (List UInt8)} (h : OutT w W (.slice a n c) M) : BL W a (M.map nb) ∧ n = M.length ∧ n ≤ c := by
  obtain ⟨f, hr, hf⟩ := h.row
  rcases hr with ⟨e, e0⟩ | ⟨g, cap, cur, e, hg, h1, h2, h3, h4⟩
  · cases e
    have := List.length_eq_zero_iff.1 e0
    subst this
    exact ⟨.inl rfl, rfl, Nat.le_refl _⟩
  · cases e
    refine ⟨.inr ⟨g, 0, rfl, blk_lt hg, fun t T hT => ?_⟩, rfl, h1⟩
    rw [List.getElem?_map] at hT
    obtain ⟨T0, hT0, rfl⟩ := Option.map_eq_some_iff.1 hT
    obtain ⟨ai, ci, q1, q2, -⟩ := hf t T0 hT0
    have ht := (List.getElem?_eq_some_iff.1 hT0).1
    exact ⟨ai, ci, by rw [cell_blk hg, Nat.zero_add, h4 t (by omega), q1, nb_len], q2⟩
/-- sorted, of what was gathered -/
theorem dsort_tx {w W : World} {a : Option Addr} {n c : Nat} {L : List Key} {pr : Key → Bool} (h : OutT w W (.slice a n c) (txF L pr)) (hL : L.length ≤ 500000) (hT : ∀ k ∈ L, k.2.1.length ≤ 4096) :
    Calls Try.prog 69 #[.slice a n c] W (SEnd w (textsL L pr)) := by
  obtain ⟨h1, h2, h3⟩ := h.done
  have := dsort_any W a c (txF L pr) (textsL L pr) (textsL_inc L pr).1 (fun x => mem_txL) (Nat.le_trans (txF_len L pr) hL) (fun T hT' => by obtain ⟨k, hk, -, rfl⟩ := txF_mem hT'; exact Nat.le_trans (hT k hk) (by decide)) h1 (by omega)
  rw [← h2] at this
  refine this.mono ?_
  rintro e w' ⟨a', n', c', rfl, H⟩
  exact ⟨a', n', c', rfl, hide ⟨(unhide H).1.mono h.nw.bel.size, h.nw.bel.trans ((unhide H).2.1.mono h.nw.bel.size), (unhide H).2.2⟩⟩
theorem dnames_any (w : World) (q : Nat) (L : List Key) (kn : Int) (p : Bool) (h : RP w q L) (hL : L.length ≤ 500000) (hT : ∀ k ∈ L, k.2.1.length ≤ 4096) :
    Calls Try.prog 51 #[.pointer (some ⟨q, 0, none⟩), .int .i64 kn, .bool p] w (SEnd w (namesL L kn p)) := by
  obtain ⟨v, h⟩ := h
  obtain ⟨i0, hi0, hz0, hz1, hz2⟩ := info_parts4 info23
  obtain ⟨a, cap, rfl⟩ := h.row.shape
  obtain ⟨n, hn⟩ : ∃ n, n = L.length := ⟨_, rfl⟩
  have HR : Hid (∀ i x, L[i]? = some x → ∃ b, a = some ⟨b, 0, none⟩ ∧ b < w.heap.size ∧ w.cell? ⟨b, i * 3, none⟩ = some (.int .i64 x.1) ∧ w.cell? ⟨b, i * 3 + 1, none⟩ = some (.string (bs x.2.1)) ∧ w.cell? ⟨b, i * 3 + 2, none⟩ = some (.bool x.2.2)) := hide fun i x hx => by
    obtain ⟨g, cp, e, k0, k1, k2⟩ := h.at hx
    cases e
    exact ⟨g, rfl, h.row.lt g rfl, k0, k1, k2⟩
  have HH : Hid (q < w.heap.size ∧ w.heap[q]? = some (.cells #[.slice a n cap] 99 (0, 0))) := by rw [hn]; exact hide ⟨h.lt, h.cell⟩
  have HN := hide hn
  have hn5 : n ≤ 500000 := by omega
  have HT := hide hT
  have CS : Hid (∀ W a n c, OutT w W (.slice a n c) (txF L (fun k => decide (k.1 = kn) && (k.2.2 == p))) → Calls Try.prog 69 #[.slice a n c] W (SEnd w (namesL L kn p))) := hide (fun W a n c' hO => dsort_tx hO hL hT)
  clear h hn hL hT
  go_enter Try.func51, Try.ntmps51
  go_wp2_with fail
  go_loopw [7, 8] (fun lv iv wr => ∃ (i m : Nat) (a' : Option Addr) (c' : Nat), lv = .slice a' m c' ∧ iv = .int .i64 ((i : Nat) : Int) ∧ i ≤ n ∧ m ≤ i ∧ Hid (m = (txF (L.take i) (fun k => decide (k.1 = kn) && (k.2.2 == p))).length) ∧ Hid (OutT w wr (.slice a' m c') (txF (L.take i) (fun k => decide (k.1 = kn) && (k.2.2 == p))))) (fun _ iv _ => n - (intOf iv).toNat)
  case atStart => exact ⟨0, 0, none, 0, rfl, rfl, Nat.zero_le _, Nat.le_refl _, hide rfl, hide (OutT.nil w)⟩
  case round =>
    obtain ⟨i, m, a', c', rfl, rfl, hi, hm, HL, HB⟩ := hrel
    have c0 : wr.cell? ⟨q, 0, none⟩ = some (.slice a n cap) := by
      obtain ⟨l0, l1⟩ := unhide HH
      exact ((unhide HB).nw.bel.cell (p := ⟨q, 0, none⟩) l0).trans (cell_blk l1 0)
    by_cases hin : i < n
    · have f1 : decide ((i : Int) < (n : Int)) = true := decide_eq_true (by omega)
      have f9 : decide (i < n) = true := decide_eq_true (by omega)
      have g1 : (0 : Int) ≤ (i : Int) := by omega
      have g2 : (i : Int) < (n : Int) := by omega
      obtain ⟨⟨kc, kt, kp⟩, hx⟩ : ∃ x, L[i]? = some x := ⟨_, List.getElem?_eq_getElem (by have := unhide HN; omega)⟩
      obtain ⟨b, rfl, hb, k0, k1, k2⟩ := (unhide HR) i _ hx
      have ht : L.take (i + 1) = L.take i ++ [(kc, kt, kp)] := by rw [List.take_add_one, hx]; rfl
      have hs := txF_snoc (L.take i) (kc, kt, kp) (fun k => decide (k.1 = kn) && (k.2.2 == p))
      rw [← ht] at hs
      have HS := hide hs
      have k0 := ((unhide HB).nw.bel.cell (p := ⟨b, i * 3, none⟩) hb).trans k0
      have k1 := ((unhide HB).nw.bel.cell (p := ⟨b, i * 3 + 1, none⟩) hb).trans k1
      have k2 := ((unhide HB).nw.bel.cell (p := ⟨b, i * 3 + 2, none⟩) hb).trans k2
      clear hs ht hx
      obtain ⟨M2, e2⟩ : ∃ M2, txF (L.take (i + 1)) (fun k => decide (k.1 = kn) && (k.2.2 == p)) = M2 := ⟨_, rfl⟩
      have HE2 := hide e2
      rw [e2] at HS
      clear e2
      generalize txF (L.take i) (fun k => decide (k.1 = kn) && (k.2.2 == p)) = M at HL HB HS
      by_cases hc : kc = kn
      · have f2 : (kc == kn) = true := by simpa using hc
        by_cases hp : kp = p
        · have f3 : (kp == p) = true := by simpa using hp
          have HS2 : Hid (M2 = M ++ [kt]) := hide (by rw [unhide HS]; simp [hc, hp])
          clear hc hp HS
          obtain ⟨cc, wc, hcv, HC2⟩ := conv_txt wr kt
          obtain ⟨f, HRf, HF⟩ : ∃ f, Hid (Rws wr 23 1 (.slice a' m c') m f) ∧ Hid (∀ t T, M[t]? = some T → ∃ ai ci, f t = .slice ai T.length ci ∧ Bytes wr ai (nb T) ∧ (nb T ≠ [] → ∀ b off, ai = some ⟨b, off, none⟩ → (Value.slice a' m c').ownBlock ≠ some b)) := by
            obtain ⟨f, q1, q2⟩ := (unhide HB).row
            exact ⟨f, hide (by rw [← unhide HL] at q1; exact q1), hide q2⟩
          have HA := hide (((unhide HC2).2.1).alloc (unhide HC2).2.1.size (.cells #[.slice (some ⟨wr.heap.size, 0, none⟩) kt.length cc] 23))
          have HBy : Hid (Bytes (wc.alloc (.cells #[.slice (some ⟨wr.heap.size, 0, none⟩) kt.length cc] 23)) (some ⟨wr.heap.size, 0, none⟩) (nb kt)) := hide ((bytes_of (g := wr.heap.size) (by have := (unhide HC2).2.2; omega) (unhide HC2).1).below' ((Below.refl _ _).alloc (Nat.le_refl _) _))
          have HGl : Hid (wr.heap.size < (wc.alloc (.cells #[.slice (some ⟨wr.heap.size, 0, none⟩) kt.length cc] 23)).heap.size) := hide (by have := (unhide HC2).2.2; simp; omega)
          go_wp2_with (first
            | (at_builtin; refine append_rws rfl _ _ 115 rfl 23 i0 _ 1 24 Try.underlying115 hi0 hz0 hz1 hz2 rfl 23 (.slice a' m c') m f rfl ((unhide HRf).below (unhide HA)) (.inl rfl) wc.heap.size 1 rfl [.slice (some ⟨wr.heap.size, 0, none⟩) kt.length cc] (by decide) rfl (made_cells wc [.slice (some ⟨wr.heap.size, 0, none⟩) kt.length cc] 23) (by simp [Value.oneCell']) (by omega) (by omega) ?_; intro v5 w5 h5 k5; obtain ⟨a5, c5, rfl⟩ := h5.shape; have S5 := hide (OutT.push (T := kt) (unhide HL) (unhide HB) (unhide HA) (Nat.le_refl _) (unhide HBy) (unhide HGl) (unhide HRf) (unhide HF) h5 k5); clear h5 k5; go_frame))
          exact ⟨⟨i + 1, m + 1, a5, c5, rfl, congrArg (Value.int .i64) (by omega), by omega, by omega, hide (by rw [unhide HE2, unhide HS2, List.length_append, ← unhide HL]; rfl), (by rw [unhide HE2, unhide HS2]; exact S5)⟩, by simp [intOf]; omega⟩
        · have f3 : (kp == p) = false := by simpa using hp
          have HS2 : Hid (M2 = M) := hide (by rw [unhide HS]; simp [hp])
          clear hc hp HS
          go_wp2_with fail
          exact ⟨⟨i + 1, m, a', c', rfl, congrArg (Value.int .i64) (by omega), by omega, by omega, hide (by rw [unhide HE2, unhide HS2]; exact unhide HL), (by rw [unhide HE2, unhide HS2]; exact HB)⟩, by simp [intOf]; omega⟩
      · have f2 : (kc == kn) = false := by simpa using hc
        have HS2 : Hid (M2 = M) := hide (by rw [unhide HS]; simp [hc])
        clear hc HS
        go_wp2_with fail
        exact ⟨⟨i + 1, m, a', c', rfl, congrArg (Value.int .i64) (by omega), by omega, by omega, hide (by rw [unhide HE2, unhide HS2]; exact unhide HL), (by rw [unhide HE2, unhide HS2]; exact HB)⟩, by simp [intOf]; omega⟩
    · obtain rfl : n = i := by omega
      have f1 : decide ((n : Int) < (n : Int)) = false := decide_eq_false (by omega)
      have f9 : decide (n < n) = false := decide_eq_false (by omega)
      have ht : L.take n = L := List.take_of_length_le (by have := unhide HN; omega)
      rw [ht] at HB
      have C69 := (unhide CS) wr a' m c' (unhide HB)
      unfold SEnd at C69 ⊢
      clear ht
      go_wp2_with (go_at_call 69; refine C69.mono ?_; clear C69; rintro e w5 ⟨a5, n5, c5, rfl, H5⟩)
      go_ret
      exact ⟨a5, n5, c5, rfl, H5⟩
theorem dpatterns_any (w : World) (q : Nat) (L : List Key) (h : RP w q L) (hL : L.length ≤ 500000) (hT : ∀ k ∈ L, k.2.1.length ≤ 4096) :
    Calls Try.prog 56 #[.pointer (some ⟨q, 0, none⟩)] w (fun e w' => e = .returned (.int .i64 ((unlikeL L true).length : Nat)) ∧ Hid (Below w.heap.size w w')) := by
  obtain ⟨v, h⟩ := h
  obtain ⟨i0, hi0, hz0, hz1, hz2⟩ := info_parts4 info23
  obtain ⟨a, cap, rfl⟩ := h.row.shape
  obtain ⟨n, hn⟩ : ∃ n, n = L.length := ⟨_, rfl⟩
  have HR : Hid (∀ i x, L[i]? = some x → ∃ b, a = some ⟨b, 0, none⟩ ∧ b < w.heap.size ∧ w.cell? ⟨b, i * 3, none⟩ = some (.int .i64 x.1) ∧ w.cell? ⟨b, i * 3 + 1, none⟩ = some (.string (bs x.2.1)) ∧ w.cell? ⟨b, i * 3 + 2, none⟩ = some (.bool x.2.2)) := hide fun i x hx => by
    obtain ⟨g, cp, e, k0, k1, k2⟩ := h.at hx
    cases e
    exact ⟨g, rfl, h.row.lt g rfl, k0, k1, k2⟩
  have HH : Hid (q < w.heap.size ∧ w.heap[q]? = some (.cells #[.slice a n cap] 99 (0, 0))) := by rw [hn]; exact hide ⟨h.lt, h.cell⟩
  have HN := hide hn
  have hn5 : n ≤ 500000 := by omega
  have HT := hide hT
  have CS : Hid (∀ W a n c, OutT w W (.slice a n c) (txF L (fun k => k.2.2 == true)) → Calls Try.prog 69 #[.slice a n c] W (SEnd w (unlikeL L true))) := hide (fun W a n c' hO => dsort_tx hO hL hT)
  clear h hn hL hT
  go_enter Try.func56, Try.ntmps56
  go_wp2_with fail
  go_loopw [3, 4] (fun lv iv wr => ∃ (i m : Nat) (a' : Option Addr) (c' : Nat), lv = .slice a' m c' ∧ iv = .int .i64 ((i : Nat) : Int) ∧ i ≤ n ∧ m ≤ i ∧ Hid (m = (txF (L.take i) (fun k => k.2.2 == true)).length) ∧ Hid (OutT w wr (.slice a' m c') (txF (L.take i) (fun k => k.2.2 == true)))) (fun _ iv _ => n - (intOf iv).toNat)
  case atStart => exact ⟨0, 0, none, 0, rfl, rfl, Nat.zero_le _, Nat.le_refl _, hide rfl, hide (OutT.nil w)⟩
  case round =>
    obtain ⟨i, m, a', c', rfl, rfl, hi, hm, HL, HB⟩ := hrel
    have c0 : wr.cell? ⟨q, 0, none⟩ = some (.slice a n cap) := by
      obtain ⟨l0, l1⟩ := unhide HH
      exact ((unhide HB).nw.bel.cell (p := ⟨q, 0, none⟩) l0).trans (cell_blk l1 0)
    by_cases hin : i < n
    · have f1 : decide ((i : Int) < (n : Int)) = true := decide_eq_true (by omega)
      have f9 : decide (i < n) = true := decide_eq_true (by omega)
      have g1 : (0 : Int) ≤ (i : Int) := by omega
      have g2 : (i : Int) < (n : Int) := by omega
      obtain ⟨⟨kc, kt, kp⟩, hx⟩ : ∃ x, L[i]? = some x := ⟨_, List.getElem?_eq_getElem (by have := unhide HN; omega)⟩
      obtain ⟨b, rfl, hb, k0, k1, k2⟩ := (unhide HR) i _ hx
      have ht : L.take (i + 1) = L.take i ++ [(kc, kt, kp)] := by rw [List.take_add_one, hx]; rfl
      have hs := txF_snoc (L.take i) (kc, kt, kp) (fun k => k.2.2 == true)
      rw [← ht] at hs
      have HS := hide hs
      have k0 := ((unhide HB).nw.bel.cell (p := ⟨b, i * 3, none⟩) hb).trans k0
      have k1 := ((unhide HB).nw.bel.cell (p := ⟨b, i * 3 + 1, none⟩) hb).trans k1
      have k2 := ((unhide HB).nw.bel.cell (p := ⟨b, i * 3 + 2, none⟩) hb).trans k2
      clear hs ht hx
      obtain ⟨M2, e2⟩ : ∃ M2, txF (L.take (i + 1)) (fun k => k.2.2 == true) = M2 := ⟨_, rfl⟩
      have HE2 := hide e2
      rw [e2] at HS
      clear e2
      generalize txF (L.take i) (fun k => k.2.2 == true) = M at HL HB HS
      by_cases hp : kp = true
      · subst hp
        have HS2 : Hid (M2 = M ++ [kt]) := hide (by rw [unhide HS]; simp)
        clear HS
        obtain ⟨cc, wc, hcv, HC2⟩ := conv_txt wr kt
        obtain ⟨f, HRf, HF⟩ : ∃ f, Hid (Rws wr 23 1 (.slice a' m c') m f) ∧ Hid (∀ t T, M[t]? = some T → ∃ ai ci, f t = .slice ai T.length ci ∧ Bytes wr ai (nb T) ∧ (nb T ≠ [] → ∀ b off, ai = some ⟨b, off, none⟩ → (Value.slice a' m c').ownBlock ≠ some b)) := by
          obtain ⟨f, q1, q2⟩ := (unhide HB).row
          exact ⟨f, hide (by rw [← unhide HL] at q1; exact q1), hide q2⟩
        have HA := hide (((unhide HC2).2.1).alloc (unhide HC2).2.1.size (.cells #[.slice (some ⟨wr.heap.size, 0, none⟩) kt.length cc] 23))
        have HBy : Hid (Bytes (wc.alloc (.cells #[.slice (some ⟨wr.heap.size, 0, none⟩) kt.length cc] 23)) (some ⟨wr.heap.size, 0, none⟩) (nb kt)) := hide ((bytes_of (g := wr.heap.size) (by have := (unhide HC2).2.2; omega) (unhide HC2).1).below' ((Below.refl _ _).alloc (Nat.le_refl _) _))
        have HGl : Hid (wr.heap.size < (wc.alloc (.cells #[.slice (some ⟨wr.heap.size, 0, none⟩) kt.length cc] 23)).heap.size) := hide (by have := (unhide HC2).2.2; simp; omega)
        go_wp2_with (first
          | (at_builtin; refine append_rws rfl _ _ 115 rfl 23 i0 _ 1 24 Try.underlying115 hi0 hz0 hz1 hz2 rfl 23 (.slice a' m c') m f rfl ((unhide HRf).below (unhide HA)) (.inl rfl) wc.heap.size 1 rfl [.slice (some ⟨wr.heap.size, 0, none⟩) kt.length cc] (by decide) rfl (made_cells wc [.slice (some ⟨wr.heap.size, 0, none⟩) kt.length cc] 23) (by simp [Value.oneCell']) (by omega) (by omega) ?_; intro v5 w5 h5 k5; obtain ⟨a5, c5, rfl⟩ := h5.shape; have S5 := hide (OutT.push (T := kt) (unhide HL) (unhide HB) (unhide HA) (Nat.le_refl _) (unhide HBy) (unhide HGl) (unhide HRf) (unhide HF) h5 k5); clear h5 k5; go_frame))
        exact ⟨⟨i + 1, m + 1, a5, c5, rfl, congrArg (Value.int .i64) (by omega), by omega, by omega, hide (by rw [unhide HE2, unhide HS2, List.length_append, ← unhide HL]; rfl), (by rw [unhide HE2, unhide HS2]; exact S5)⟩, by simp [intOf]; omega⟩
      · have hp2 : kp = false := by simpa using hp
        subst hp2
        have HS2 : Hid (M2 = M) := hide (by rw [unhide HS]; simp)
        clear hp HS
        go_wp2_with fail
        exact ⟨⟨i + 1, m, a', c', rfl, congrArg (Value.int .i64) (by omega), by omega, by omega, hide (by rw [unhide HE2, unhide HS2]; exact unhide HL), (by rw [unhide HE2, unhide HS2]; exact HB)⟩, by simp [intOf]; omega⟩
    · obtain rfl : n = i := by omega
      have f1 : decide ((n : Int) < (n : Int)) = false := decide_eq_false (by omega)
      have f9 : decide (n < n) = false := decide_eq_false (by omega)
      have ht : L.take n = L := List.take_of_length_le (by have := unhide HN; omega)
      rw [ht] at HB
      have C69 := (unhide CS) wr a' m c' (unhide HB)
      unfold SEnd at C69
      clear ht
      go_wp2_with (go_at_call 69; refine C69.mono ?_; clear C69; rintro e w5 ⟨a5, n5, c5, rfl, H5⟩)
      go_ret
      exact ⟨(by rw [(unhide H5).2.2]; rfl), hide (unhide H5).2.1⟩
end Go.Proofs.Ytjmnddcombepaaa
