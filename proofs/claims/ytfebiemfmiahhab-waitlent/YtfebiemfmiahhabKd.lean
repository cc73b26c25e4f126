/- named, wrong, refusal. -/
import Derived.Test.YtfebiemfmiahhabKc
namespace Go.Proofs.Ytfebiemfmiahhab
open Go.ChangeShapes Go.WideShapes Go.ChangeAt Go.RowKit Go.Maps
set_option linter.unusedVariables false
set_option linter.unusedSimpArgs false
set_option maxRecDepth 100000
set_option maxHeartbeats 4000000
/-- named: is the place among them? -/
theorem named_any (w : World) (a : Option Addr) (cap : Nat) (l : List Pl) (p : Pl) (hl : PlsAt w a l) (hn : l.length ≤ 1000000) (hk : ∀ p ∈ l, POk p) (hp : POk p) :
    Calls Try.prog 38 #[.slice a l.length cap, .agg #[.int .i64 p.1, .string (bs p.2)]] w fun e w' => e = .returned (.bool (decide (p ∈ l))) ∧ Hid (Below w.heap.size w w') := by
  obtain ⟨n, hnl⟩ : ∃ n, n = l.length := ⟨_, rfl⟩
  rw [← hnl] at hn ⊢
  have HN := hide hnl
  clear hnl
  have hb0 : Below w.heap.size w (w.alloc (.cells #[.int .i64 p.1, .string (bs p.2)] 46)) := (Below.refl _ _).alloc (Nat.le_refl _) _
  have HS : Hid (Below (w.heap.size + 1) (w.alloc (.cells #[.int .i64 p.1, .string (bs p.2)] 46)) (w.alloc (.cells #[.int .i64 p.1, .string (bs p.2)] 46))) := hide (Below.refl _ _)
  have HBX := hide (heap_alloc_new w (.cells #[.int .i64 p.1, .string (bs p.2)] 46))
  have hsz0 : (w.alloc (.cells #[.int .i64 p.1, .string (bs p.2)] 46)).heap.size = w.heap.size + 1 := by simp
  generalize hw0 : w.alloc (.cells #[.int .i64 p.1, .string (bs p.2)] 46) = w0 at *
  have HB0 := hide hb0
  have HZ0 := hide hsz0
  obtain ⟨r, hr⟩ : ∃ r, decide (p ∈ l) = r := ⟨_, rfl⟩
  rw [hr]
  have HR := hide hr
  clear hb0 hsz0 hr
  go_enter Try.func38, Try.ntmps38
  go_wp2_with fail
  go_loopw [9] (fun iv wr => ∃ i : Nat, iv = .int .i64 ((i : Nat) : Int) ∧ i ≤ n ∧ Hid (Below w0.heap.size w0 wr ∧ p ∉ l.take i)) (fun iv _ => n - (intOf iv).toNat)
  case atStart =>
    exact ⟨0, rfl, Nat.zero_le _, hide ⟨Below.refl _ _, by simp⟩⟩
  case round =>
    obtain ⟨i, rfl, hi, HC⟩ := hrel
    by_cases hin : i < n
    · have f1 : decide ((i : Int) < (n : Int)) = true := decide_eq_true (by omega)
      have g1 : (0 : Int) ≤ (i : Int) := by omega
      have g2 : (i : Int) < (n : Int) := by omega
      obtain ⟨x, hx⟩ : ∃ x, l[i]? = some x := ⟨_, List.getElem?_eq_getElem (by have := unhide HN; omega)⟩
      obtain ⟨b, off, rfl, hbl, hcl⟩ : ∃ b off, a = some ⟨b, off, none⟩ ∧ b < w.heap.size ∧ ∀ (i : Nat) (x : Pl), l[i]? = some x → w.cell? ⟨b, off + i * 2, none⟩ = some (.int .i64 x.1) ∧ w.cell? ⟨b, off + i * 2 + 1, none⟩ = some (.string (bs x.2)) := by
        rcases hl with h | h
        · rw [h] at hx; simp at hx
        · exact h
      obtain ⟨p0, p1⟩ := hcl i x hx
      have hbw : Below w.heap.size w wr := (unhide HB0).trans ((unhide HC).1.mono (unhide HB0).size)
      have c0 : wr.cell? ⟨b, off + i * 2, none⟩ = some (.int .i64 x.1) := (hbw.cell (p := ⟨b, off + i * 2, none⟩) hbl).trans p0
      have c1 : wr.cell? ⟨b, off + i * 2 + 1, none⟩ = some (.string (bs x.2)) := (hbw.cell (p := ⟨b, off + i * 2 + 1, none⟩) hbl).trans p1
      have ha : Below w0.heap.size w0 (wr.alloc (.cells #[.int .i64 x.1, .string (bs x.2)] 46)) := (unhide HC).1.alloc (unhide HC).1.size _
      have hbb := (ha.block w.heap.size (by have := unhide HZ0; omega)).trans (unhide HBX)
      have d0 : (wr.alloc (.cells #[.int .i64 x.1, .string (bs x.2)] 46)).cell? ⟨w.heap.size, 0, none⟩ = some (.int .i64 p.1) := cell_blk hbb 0
      have d1 : (wr.alloc (.cells #[.int .i64 x.1, .string (bs x.2)] 46)).cell? ⟨w.heap.size, 1, none⟩ = some (.string (bs p.2)) := cell_blk hbb 1
      have heq : ∀ W, (Op.equalIn 10000 46 (.agg #[.int .i64 x.1, .string (bs x.2)]) (.agg #[.int .i64 p.1, .string (bs p.2)])).run Try.prog W = .ok (decide (x = p)) W := fun W => pl_eq (hk x (List.mem_of_getElem? hx)) hp W
      have HAL := hide ha
      have HX := hide hx
      clear hcl p0 p1 hx hl hk hbw ha hbb
      by_cases hxp : x = p
      · have hrt : r = true := by
          rw [← unhide HR]
          exact decide_eq_true (by rw [← hxp]; exact List.mem_of_getElem? (unhide HX))
        simp only [decide_eq_true hxp] at heq
        have HRT := hide hrt
        clear hrt hxp
        go_wp2_with fail
        go_ret
        exact ⟨by rw [unhide HRT]; rfl, hide ((unhide HB0).trans ((unhide HAL).mono (unhide HB0).size))⟩
      · simp only [decide_eq_false hxp] at heq
        have HNX : Hid (p ∉ l.take (i + 1)) := hide (by
          rw [List.take_add_one, unhide HX]
          intro h
          rcases List.mem_append.1 h with h | h
          · exact (unhide HC).2 h
          · simp at h
            exact hxp h.symm)
        clear hxp
        go_wp2_with fail
        all_goals go_roundw
        case rel => exact ⟨i + 1, by go_num, by omega, hide ⟨unhide HAL, unhide HNX⟩⟩
        case measure => simp [intOf]; omega
    · obtain rfl : i = n := by omega
      have f1 : decide ((i : Int) < (i : Int)) = false := decide_eq_false (by omega)
      have hrf : r = false := by
        rw [← unhide HR]
        refine decide_eq_false ?_
        have := (unhide HC).2
        rwa [List.take_of_length_le (by have := unhide HN; omega)] at this
      have HRF := hide hrf
      clear hl hk hrf
      go_wp2_with fail
      go_ret
      exact ⟨by rw [unhide HRF]; rfl, hide ((unhide HB0).trans ((unhide HC).1.mono (unhide HB0).size))⟩
/-- a place that may not be -/
def wrongB (p : Pl) : Bool := decide (p.1 < 0) || decide (4 ≤ p.1) || decide (4096 < p.2.length)
theorem wrongB_iff (p : Pl) : wrongB p = false ↔ PGood p := by
  unfold wrongB PGood
  simp
theorem wrong_any (w : World) (p : Pl) : Calls Try.prog 51 #[.agg #[.int .i64 p.1, .string (bs p.2)]] w fun e w' => e = .returned (.bool (wrongB p)) ∧ Below w.heap.size w w' := by
  obtain ⟨d, T⟩ := p
  have HB := hide ((Below.refl w.heap.size w).alloc (Nat.le_refl _) (.cells #[.int .i64 d, .string (bs T)] 46))
  have hs := bs_size T
  obtain ⟨m, hm⟩ : ∃ m, m = T.length := ⟨_, rfl⟩
  have hw : wrongB (d, T) = (decide (d < 0) || decide (4 ≤ d) || decide (4096 < m)) := by rw [hm]; rfl
  rw [hw]
  rw [← hm] at hs
  clear hw hm
  by_cases h1 : d < 0
  · have f1 : decide (d < 0) = true := decide_eq_true h1
    go_enter Try.func51, Try.ntmps51
    go_wp2
    go_ret
    exact ⟨by rw [f1]; rfl, unhide HB⟩
  · have f1 : decide (d < 0) = false := decide_eq_false h1
    by_cases h2 : 4 ≤ d
    · have f2 : decide (4 ≤ d) = true := decide_eq_true h2
      have f2' : decide (d ≥ 4) = true := decide_eq_true h2
      go_enter Try.func51, Try.ntmps51
      go_wp2
      go_ret
      exact ⟨rfl, unhide HB⟩
    · have f2 : decide (4 ≤ d) = false := decide_eq_false h2
      have f2' : decide (d ≥ 4) = false := decide_eq_false h2
      by_cases h3 : 4096 < m
      · have f3 : decide ((4096 : Int) < (m : Int)) = true := decide_eq_true (by omega)
        have f4 : decide (4096 < m) = true := decide_eq_true h3
        have f3' : decide ((m : Int) > (4096 : Int)) = true := decide_eq_true (by omega)
        go_enter Try.func51, Try.ntmps51
        go_wp2
        go_ret
        exact ⟨rfl, unhide HB⟩
      · have f3 : decide ((4096 : Int) < (m : Int)) = false := decide_eq_false (by omega)
        have f4 : decide (4096 < m) = false := decide_eq_false h3
        have f3' : decide ((m : Int) > (4096 : Int)) = false := decide_eq_false (by omega)
        go_enter Try.func51, Try.ntmps51
        go_wp2
        go_ret
        exact ⟨rfl, unhide HB⟩
theorem contains_any (w : World) (a : Option Addr) (cap : Nat) (l : List Pl) (hl : PlsAt w a l) (h1 : 1 ≤ l.length) (hn : l.length ≤ 64) :
    Calls Try.prog 50 #[.slice a l.length cap, .func (.func 51) #[] #[]] w fun e w' => e = .returned (.bool (l.any wrongB)) ∧ Hid (Below w.heap.size w w') := by
  obtain ⟨b, off, rfl, hb, hc⟩ : ∃ b off, a = some ⟨b, off, none⟩ ∧ b < w.heap.size ∧ ∀ (i : Nat) (x : Pl), l[i]? = some x → w.cell? ⟨b, off + i * 2, none⟩ = some (.int .i64 x.1) ∧ w.cell? ⟨b, off + i * 2 + 1, none⟩ = some (.string (bs x.2)) := by
    rcases hl with h | h
    · rw [h] at h1; exact absurd h1 (by simp)
    · exact h
  have eg : ∀ args w, (callFunc 51 args).run Try.prog w = .ok (.enter 51 args) w := enters_of Try.func51 (by kernel_rfl) rfl
  have hcon := AnyQ.slices_ContainsFunc Try.conF 2 Try.isAgg46 Try.sizeOf46 plC (fun _ => rfl) wrongB 51 #[] eg b off l.length cap l w (fun W x hW => (wrong_any W x).mono (fun e w' ⟨e1, e2⟩ => ⟨e1, hW.trans (e2.mono hW.size)⟩)) (Nat.le_refl _) (by omega) hb (fun j hj i v hv => by
    have hx : l[j]? = some l[j]! := by rw [List.getElem?_eq_getElem hj, List.getElem!_eq_getElem?_getD, List.getElem?_eq_getElem hj]; rfl
    obtain ⟨c0, c1⟩ := hc j _ hx
    have hi : i < 2 := by
      have := (List.getElem?_eq_some_iff.1 hv).1
      simpa [plC] using this
    have h2 : i = 0 ∨ i = 1 := by omega
    rcases h2 with rfl | rfl
    · rw [Nat.add_zero, c0]; simpa [plC] using hv
    · rw [c1]; simpa [plC] using hv)
  change Calls Try.prog 50 _ _ _ at hcon
  rw [List.take_length] at hcon
  exact hcon.mono (fun e w' ⟨e1, e2⟩ => ⟨e1, hide e2⟩)
/-- why a connection cannot wait so -/
def refR (E : List En) (c k : Int) (l : List Pl) (t : Nat) : Int := if c < 0 ∨ 8 ≤ c then 180 else if (lookE E c).isSome then 181 else if k ≠ 2 ∧ k ≠ 5 then 184 else if l.length = 0 ∨ 64 < l.length ∨ l.any wrongB = true then 182 else if 4503599627370496 < t then 183 else 0
theorem refusal_any (O : Nat → Prop) (w : World) (p bw bl T : Nat) (E : List En) (c k : Int) (a : Option Addr) (cap : Nat) (l : List Pl) (t : Nat) (h : WAt O w p bw bl T E) (hc : IOk c) (hl : PlsAt w a l) (hll : l.length ≤ 9223372036854775807) :
    Calls Try.prog 36 #[.pointer (some ⟨p, 0, none⟩), .int .i64 c, .int .i64 k, .slice a l.length cap, .int .u64 (t : Nat)] w fun e w' => e = .returned (.int .i64 (refR E c k l t)) ∧ Hid (Below w.heap.size w w') := by
  have CW := hide (waits_any O w p bw bl T E c h hc)
  have HB0 : Hid (Below w.heap.size w w) := hide (Below.refl _ _)
  unfold refR
  by_cases h1 : c < 0
  · rw [if_pos (.inl h1)]
    have f1 : decide (c < 0) = true := decide_eq_true h1
    clear h hl
    go_enter Try.func36, Try.ntmps36
    go_wp2
    go_ret
    exact ⟨rfl, HB0⟩
  have f1 : decide (c < 0) = false := decide_eq_false h1
  by_cases h2 : 8 ≤ c
  · rw [if_pos (.inr h2)]
    have f2 : decide (8 ≤ c) = true := decide_eq_true h2
    have f2' : decide (c ≥ 8) = true := decide_eq_true h2
    clear h hl
    go_enter Try.func36, Try.ntmps36
    go_wp2
    go_ret
    exact ⟨rfl, HB0⟩
  rw [if_neg (by omega)]
  have f2 : decide (8 ≤ c) = false := decide_eq_false h2
  have f2' : decide (c ≥ 8) = false := decide_eq_false h2
  cases h3 : (lookE E c).isSome with
  | true =>
    rw [h3] at CW
    rw [if_pos rfl]
    clear h hl h3
    go_enter Try.func36, Try.ntmps36
    go_wp2_with (first | (go_at_call 49; with_reducible refine (unhide CW).mono ?_; rintro e w1 ⟨rfl, k1⟩))
    go_ret
    exact ⟨rfl, k1⟩
  | false =>
    rw [h3] at CW
    rw [if_neg (by simp)]
    by_cases h4 : k ≠ 2 ∧ k ≠ 5
    · rw [if_pos h4]
      have f3 : (k != 2) = true := by simp [h4.1]
      have f4 : (k != 5) = true := by simp [h4.2]
      clear h hl h3
      go_enter Try.func36, Try.ntmps36
      go_wp2_with (first | (go_at_call 49; with_reducible refine (unhide CW).mono ?_; rintro e w1 ⟨rfl, k1⟩))
      go_ret
      exact ⟨rfl, k1⟩
    rw [if_neg h4]
    obtain ⟨n, hn⟩ : ∃ n, n = l.length := ⟨_, rfl⟩
    rw [← hn]
    have hlw : ∀ w', Below w.heap.size w w' → PlsAt w' a l := fun w' hb => hl.below hb
    by_cases h5 : n = 0
    · rw [if_pos (.inl h5)]
      subst h5
      clear h hl h3 hn hlw
      rcases (show k = 2 ∨ k = 5 by omega) with rfl | rfl
      · go_enter Try.func36, Try.ntmps36
        go_wp2_with (first | (go_at_call 49; with_reducible refine (unhide CW).mono ?_; rintro e w1 ⟨rfl, k1⟩))
        go_ret
        exact ⟨rfl, k1⟩
      · go_enter Try.func36, Try.ntmps36
        go_wp2_with (first | (go_at_call 49; with_reducible refine (unhide CW).mono ?_; rintro e w1 ⟨rfl, k1⟩))
        go_ret
        exact ⟨rfl, k1⟩
    have e5 : ((n : Int) == 0) = false := by simpa using h5
    have e5' : decide ((n : Int) = 0) = false := decide_eq_false (by omega)
    have e5'' : decide (n = 0) = false := decide_eq_false h5
    have e5b : (n == 0) = false := by simpa using h5
    by_cases h6 : 64 < n
    · rw [if_pos (.inr (.inl h6))]
      have e6 : decide ((64 : Int) < (n : Int)) = true := decide_eq_true (by omega)
      have e6' : decide ((n : Int) > 64) = true := decide_eq_true (by omega)
      have e6'' : decide (64 < n) = true := decide_eq_true h6
      have hn' := hide hn
      clear h hl h3 hn hlw
      rcases (show k = 2 ∨ k = 5 by omega) with rfl | rfl
      · go_enter Try.func36, Try.ntmps36
        go_wp2_with (first | (go_at_call 49; with_reducible refine (unhide CW).mono ?_; rintro e w1 ⟨rfl, k1⟩))
        go_ret
        exact ⟨rfl, k1⟩
      · go_enter Try.func36, Try.ntmps36
        go_wp2_with (first | (go_at_call 49; with_reducible refine (unhide CW).mono ?_; rintro e w1 ⟨rfl, k1⟩))
        go_ret
        exact ⟨rfl, k1⟩
    have e6 : decide ((64 : Int) < (n : Int)) = false := decide_eq_false (by omega)
    have e6' : decide ((n : Int) > 64) = false := decide_eq_false (by omega)
    have e6'' : decide (64 < n) = false := decide_eq_false h6
    have CF : Hid (∀ w1, Hid (Below w.heap.size w w1) → Calls Try.prog 50 #[.slice a n cap, .func (.func 51) #[] #[]] w1 fun e w' => e = .returned (.bool (l.any wrongB)) ∧ Hid (Below w.heap.size w w')) := hide (fun w1 hb => by
      have := contains_any w1 a cap l (hlw w1 (unhide hb)) (by omega) (by omega)
      rw [← hn] at this
      exact this.mono (fun e w' ⟨e1, e2⟩ => ⟨e1, hide ((unhide hb).trans ((unhide e2).mono (unhide hb).size))⟩))
    have e7 : (n = 0 ∨ 64 < n ∨ l.any wrongB = true) ↔ l.any wrongB = true := ⟨fun h => by rcases h with h | h | h <;> first | omega | exact h, fun h => .inr (.inr h)⟩
    cases h7 : l.any wrongB with
    | true =>
      rw [if_pos (.inr (.inr rfl))]
      rw [h7] at CF
      clear h hl h3 hn hlw e7 h7
      rcases (show k = 2 ∨ k = 5 by omega) with rfl | rfl
      · go_enter Try.func36, Try.ntmps36
        go_wp2_with (first | (go_at_call 49; with_reducible refine (unhide CW).mono ?_; rintro e w1 ⟨rfl, k1⟩) | (go_at_call 50; with_reducible refine (unhide CF _ k1).mono ?_; rintro e w2 ⟨rfl, k2⟩))
        go_ret
        exact ⟨rfl, k2⟩
      · go_enter Try.func36, Try.ntmps36
        go_wp2_with (first | (go_at_call 49; with_reducible refine (unhide CW).mono ?_; rintro e w1 ⟨rfl, k1⟩) | (go_at_call 50; with_reducible refine (unhide CF _ k1).mono ?_; rintro e w2 ⟨rfl, k2⟩))
        go_ret
        exact ⟨rfl, k2⟩
    | false =>
      rw [if_neg (by rintro (h | h | h) <;> first | omega | cases h)]
      rw [h7] at CF
      clear h hl h3 hn hlw e7 h7
      by_cases h8 : 4503599627370496 < t
      · rw [if_pos h8]
        have e8 : decide ((4503599627370496 : Int) < (t : Int)) = true := decide_eq_true (by omega)
        have e8' : decide ((t : Int) > 4503599627370496) = true := decide_eq_true (by omega)
        have e8'' : decide (4503599627370496 < t) = true := decide_eq_true h8
        rcases (show k = 2 ∨ k = 5 by omega) with rfl | rfl
        · go_enter Try.func36, Try.ntmps36
          go_wp2_with (first | (go_at_call 49; with_reducible refine (unhide CW).mono ?_; rintro e w1 ⟨rfl, k1⟩) | (go_at_call 50; with_reducible refine (unhide CF _ k1).mono ?_; rintro e w2 ⟨rfl, k2⟩))
          go_ret
          exact ⟨rfl, k2⟩
        · go_enter Try.func36, Try.ntmps36
          go_wp2_with (first | (go_at_call 49; with_reducible refine (unhide CW).mono ?_; rintro e w1 ⟨rfl, k1⟩) | (go_at_call 50; with_reducible refine (unhide CF _ k1).mono ?_; rintro e w2 ⟨rfl, k2⟩))
          go_ret
          exact ⟨rfl, k2⟩
      · rw [if_neg h8]
        have e8 : decide ((4503599627370496 : Int) < (t : Int)) = false := decide_eq_false (by omega)
        have e8' : decide ((t : Int) > 4503599627370496) = false := decide_eq_false (by omega)
        have e8'' : decide (4503599627370496 < t) = false := decide_eq_false h8
        rcases (show k = 2 ∨ k = 5 by omega) with rfl | rfl
        · go_enter Try.func36, Try.ntmps36
          go_wp2_with (first | (go_at_call 49; with_reducible refine (unhide CW).mono ?_; rintro e w1 ⟨rfl, k1⟩) | (go_at_call 50; with_reducible refine (unhide CF _ k1).mono ?_; rintro e w2 ⟨rfl, k2⟩))
          go_ret
          exact ⟨rfl, k2⟩
        · go_enter Try.func36, Try.ntmps36
          go_wp2_with (first | (go_at_call 49; with_reducible refine (unhide CW).mono ?_; rintro e w1 ⟨rfl, k1⟩) | (go_at_call 50; with_reducible refine (unhide CF _ k1).mono ?_; rintro e w2 ⟨rfl, k2⟩))
          go_ret
          exact ⟨rfl, k2⟩
end Go.Proofs.Ytfebiemfmiahhab
