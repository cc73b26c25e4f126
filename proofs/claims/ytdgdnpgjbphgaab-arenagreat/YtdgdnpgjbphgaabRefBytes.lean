/- The document's block: Bytes. -/
import Derived.Test.YtdgdnpgjbphgaabRefTake
import Derived.Test.YtdgdnpgjbphgaabRefPack
namespace Go.Proofs.Ytdgdnpgjbphgaab
open Go.ChangeShapes Go.WideShapes Go.ChangeAt Go.RowKit
set_option linter.unusedVariables false
set_option maxRecDepth 100000
set_option maxHeartbeats 4000000

/-- the raws of object j, and their bytes -/
def rawsOf (R : RefSt) (j : Nat) : List Nat := (R.X.getD j []).drop (R.L.getD j (0, 0, 0)).2.1
def rbyN (R : RefSt) (j : Nat) : List Nat := Larder.unpackL (rawsOf R j) (8 * (R.L.getD j (0, 0, 0)).2.2)
theorem rbytes_gone {w : World} {pr r : Nat} {rt : Nat → Nat} {R : RefSt} (h : RefAt w pr r rt R) (j t : Nat) (hj : j < R.L.length) (hg : R.Gn.getD j none = some t) (f n : Int) :
    Calls Try.prog 30 #[.pointer (some ⟨pr, 0, none⟩), .int .i64 (place R.L j : Nat), .int .i64 f, .int .i64 n] w fun e w' => e = .returned (.tuple #[.slice none 0 0, .int .i64 26]) ∧ Still w w' := by
  have HF := hide (whole_gone h j t hj hg)
  clear h hg
  go_enter Try.func30, Try.ntmps30
  go_wp2_with fail
  refine (unhide HF).mono ?_
  rintro e w1 ⟨rfl, hst⟩
  have HS := hide hst
  clear hst
  go_wp2
  go_ret2
  exact ⟨rfl, unhide HS⟩
theorem rbytes_none {w : World} {pr r : Nat} {rt : Nat → Nat} {R : RefSt} (h : RefAt w pr r rt R) (at' : Int) (hno : ∀ j, j < R.L.length → at' ≠ (place R.L j : Nat)) (f n : Int) :
    Calls Try.prog 30 #[.pointer (some ⟨pr, 0, none⟩), .int .i64 at', .int .i64 f, .int .i64 n] w fun e w' => e = .returned (.tuple #[.slice none 0 0, .int .i64 23]) ∧ Still w w' := by
  have HF := hide (whole_no h at' hno)
  clear h hno
  go_enter Try.func30, Try.ntmps30
  go_wp2_with fail
  refine (unhide HF).mono ?_
  rintro e w1 ⟨rfl, hst⟩
  have HS := hide hst
  clear hst
  go_wp2
  go_ret2
  exact ⟨rfl, unhide HS⟩
theorem getD_dropped (l : List Nat) (a i : Nat) : (l.drop a).getD i 0 = l.getD (a + i) 0 := by rw [List.getD_eq_getElem?_getD, List.getElem?_drop, ← List.getD_eq_getElem?_getD]
theorem RefAt.raws {w : World} {pr r : Nat} {rt : Nat → Nat} {R : RefSt} (h : RefAt w pr r rt R) (j : Nat) (hj : j < R.L.length) (aF : Option Addr) (cF : Nat) (e : R.F.getD j undef = .slice aF (fldsOf R.L j) cF) :
    (aF = none ∧ cF = 0 ∧ fldsOf R.L j = 0) ∨ ∃ gF, aF = some ⟨gF, 0, none⟩ ∧ fldsOf R.L j ≤ cF ∧ cF ≤ maxLen ∧ Words w (some ⟨gF, (R.L.getD j (0, 0, 0)).2.1, none⟩) (rawsOf R j) := by
  have h1 := (h.fld j hj).1
  rw [e] at h1
  rcases h1 with ⟨h2, h0⟩ | ⟨g, cap, cur, h2, hg, hn, hc, hs, hf⟩
  · simp only [Value.slice.injEq] at h2
    exact .inl ⟨h2.1, h2.2.2, h0⟩
  · simp only [Value.slice.injEq] at h2
    obtain ⟨q1, q2, q3⟩ := h2
    subst q3
    refine .inr ⟨g, q1, hn, hc, .inr ⟨g, _, rfl, (Array.getElem?_eq_some_iff.1 hg).1, fun i hi => ?_⟩⟩
    have hxs := h.xs j hj
    unfold rawsOf at hi ⊢
    rw [List.length_drop] at hi
    simp only [World.cell?, hg]
    rw [hf _ (by omega)]
    show some (w64 _) = _
    rw [getD_dropped]
    rfl
theorem raws_len {w : World} {pr r : Nat} {rt : Nat → Nat} {R : RefSt} (h : RefAt w pr r rt R) (j : Nat) (hj : j < R.L.length) : (rawsOf R j).length = (R.L.getD j (0, 0, 0)).2.2 := by
  unfold rawsOf
  rw [List.length_drop, h.xs j hj]
  unfold fldsOf
  omega
theorem raws_small {w : World} {pr r : Nat} {rt : Nat → Nat} {R : RefSt} (h : RefAt w pr r rt R) (j : Nat) : WSmall (rawsOf R j) := by
  intro i _
  unfold rawsOf
  rw [List.getD_eq_getElem?_getD, List.getElem?_drop, ← List.getD_eq_getElem?_getD]
  exact h.sm j _
/-- the raws are unpacked -/
theorem raws_unpack {w wq : World} {pr r : Nat} {rt : Nat → Nat} {R : RefSt} (h : RefAt w pr r rt R) (k : Still w wq) (j : Nat) (hj : j < R.L.length) (a : Option Addr) (cp : Nat) (hW : Words wq a (rawsOf R j)) :
    Calls Try.prog 70 #[.slice a (R.L.getD j (0, 0, 0)).2.2 cp, .int .i64 (8 * (R.L.getD j (0, 0, 0)).2.2 : Nat)] wq fun e w' => ∃ a1 c1, e = .returned (.tuple #[.slice a1 (8 * (R.L.getD j (0, 0, 0)).2.2) c1, .int .i64 0]) ∧ OwnB w' w.heap.size (.slice a1 (8 * (R.L.getD j (0, 0, 0)).2.2) c1) (rbyN R j) ∧ Below w.heap.size w w' := by
  have hl := raws_len h j hj
  have hf := (h.flds j hj)
  have := runpack_yes a cp (8 * (R.L.getD j (0, 0, 0)).2.2) wq (rawsOf R j) (by rw [hl]; omega) (by rw [hl]; unfold Larder.wn; omega) hW (raws_small h j)
  rw [hl] at this
  refine this.mono ?_
  rintro e w' ⟨v, rfl, b1, b2⟩
  obtain ⟨a1, c1, hv, _⟩ := b1.shape
  rw [Larder.unpackL_length] at hv
  subst hv
  have hk : wq.heap.size = w.heap.size := by rw [k.heap]
  exact ⟨a1, c1, rfl, by rw [← hk]; exact b1, by rw [← hk] at *; exact ⟨b2.os.trans k.os, b2.tape.trans k.tape, b2.output.trans k.output, by rw [← k.heap]; exact b2.size, fun g hg => by rw [b2.block g hg, k.heap]⟩⟩
theorem rbytes_span {w : World} {pr r : Nat} {rt : Nat → Nat} {R : RefSt} (h : RefAt w pr r rt R) (j : Nat) (hj : j < R.L.length) (hg : R.Gn.getD j none = none) (f n : Int) (hsp : ¬ (0 ≤ f ∧ f ≤ (8 * (R.L.getD j (0, 0, 0)).2.2 : Nat) ∧ 0 ≤ n ∧ n ≤ (8 * (R.L.getD j (0, 0, 0)).2.2 : Nat) - f)) :
    Calls Try.prog 30 #[.pointer (some ⟨pr, 0, none⟩), .int .i64 (place R.L j : Nat), .int .i64 f, .int .i64 n] w fun e w' => e = .returned (.tuple #[.slice none 0 0, .int .i64 25]) ∧ Below w.heap.size w w' := by
  have HF := hide (whole_yes h j hj hg)
  have HO := hide (fun wq k => h.six j hj wq k)
  have HRW := hide (fun wq (k : Still w wq) => (h.still k).raws j hj)
  have HUN := hide (fun wq (k : Still w wq) => raws_unpack h k j hj)
  have HRL := hide (raws_len h j hj)
  obtain ⟨hf1, hf2, hf3⟩ := h.flds j hj
  have y0 : (0 : Int) ≤ (j : Int) := by omega
  have y1 : (j : Int) < (R.L.length : Int) := by omega
  rw [hg] at HO
  generalize (R.L.getD j (0, 0, 0)).1 = kd at *
  generalize (R.L.getD j (0, 0, 0)).2.1 = rf at *
  generalize (R.L.getD j (0, 0, 0)).2.2 = rw' at *
  generalize fldsOf R.L j = nf at *
  generalize place R.L j = pj at *
  have z1 : (0 : Int) ≤ (rf : Int) := by omega
  have z2 : (rf : Int) ≤ (nf : Int) := by omega
  clear h hg
  go_enter Try.func30, Try.ntmps30
  go_wp2_with fail
  refine (unhide HF).mono ?_
  rintro e w1 ⟨rfl, hst⟩
  obtain ⟨g, cap, aF, cF, c2, eF, o0, o1, o2, o3, o4, o5, _⟩ := unhide HO w1 hst
  have HST := hide hst
  have HW1 := hide (fun wq (k : Still w wq) => unhide HRW wq k aF cF eF)
  rcases unhide HRW w1 hst aF cF eF with ⟨rfl, rfl, hn0⟩ | ⟨gF, rfl, hcF, hcm, _⟩
  · clear o0 o1 o4 o5 hst HO HF eF
    have hrf : rf = 0 := by omega
    have hrw : rw' = 0 := by omega
    subst hrf
    subst hn0
    subst hrw
    have HWN : Hid (rawsOf R j = []) := hide (List.eq_nil_of_length_eq_zero (unhide HRL))
    go_wp2_with fail
    go_quiet (fail)
    have HS8 := hide ((unhide HST).drew nq)
    generalize w1.drewN nq = w8 at *
    clear c2 o2 o3
    go_wp2_with fail
    have := unhide HUN w8 (unhide HS8) none 0 (.inl (unhide HWN))
    refine this.mono ?_
    rintro e w2 ⟨a1, c1, rfl, b1, b2⟩
    have HB2 := hide b2
    clear b1 b2
    by_cases k1 : f < 0
    · have d1 : decide (f < 0) = true := decide_eq_true k1
      go_wp2
      go_ret2
      exact ⟨rfl, unhide HB2⟩
    · have d1 : decide (f < 0) = false := decide_eq_false k1
      by_cases k2 : (0 : Int) < f
      · have d2 : decide ((0 : Int) < f) = true := decide_eq_true k2
        go_wp2
        go_ret2
        exact ⟨rfl, unhide HB2⟩
      · have d2 : decide ((0 : Int) < f) = false := decide_eq_false k2
        by_cases k3 : n < 0
        · have d3 : decide (n < 0) = true := decide_eq_true k3
          go_wp2
          go_ret2
          exact ⟨rfl, unhide HB2⟩
        · have d3 : decide (n < 0) = false := decide_eq_false k3
          have k4 : (0 : Int) - f < n := by omega
          have d4 : decide ((0 : Int) - f < n) = true := decide_eq_true k4
          clear hsp
          go_wp2
          go_ret2
          exact ⟨rfl, unhide HB2⟩
  · clear o0 o1 o4 o5 hst HO HF
    have z3 : (nf : Int) ≤ (cF : Int) := by omega
    unfold maxLen at hcm
    have en : nf - rf = rw' := by omega
    go_wp2_with fail
    go_quiet (fail)
    have HWW : Hid (∀ wq, Still w wq → Words wq (if cF = rf then some ⟨gF, 0, none⟩ else some ⟨gF, rf, none⟩) (rawsOf R j)) := hide (fun wq k => by
      by_cases e : cF = rf
      · exact .inl (List.eq_nil_of_length_eq_zero (by rw [unhide HRL]; omega))
      · rw [if_neg e]
        rcases unhide HW1 wq k with ⟨q, _⟩ | ⟨g', q, _, _, q2⟩
        · cases q
        · injection q with q
          injection q with q
          subst q
          exact q2)
    generalize (if cF = rf then some (⟨gF, 0, none⟩ : Addr) else some ⟨gF, rf, none⟩) = aR at *
    generalize cF - rf = cR at *
    have HS8 := hide ((unhide HST).drew nq)
    generalize w1.drewN nq = w8 at *
    clear c2 o2 o3
    go_wp2_with fail
    have := unhide HUN w8 (unhide HS8) aR cR (unhide HWW w8 (unhide HS8))
    refine this.mono ?_
    rintro e w2 ⟨a1, c1, rfl, b1, b2⟩
    have HB2 := hide b2
    clear b1 b2 en
    by_cases k1 : f < 0
    · have d1 : decide (f < 0) = true := decide_eq_true k1
      go_wp2
      go_ret2
      exact ⟨rfl, unhide HB2⟩
    · have d1 : decide (f < 0) = false := decide_eq_false k1
      by_cases k2 : ((8 * rw' : Nat) : Int) < f
      · have d2 : decide (((8 * rw' : Nat) : Int) < f) = true := decide_eq_true k2
        go_wp2
        go_ret2
        exact ⟨rfl, unhide HB2⟩
      · have d2 : decide (((8 * rw' : Nat) : Int) < f) = false := decide_eq_false k2
        by_cases k3 : n < 0
        · have d3 : decide (n < 0) = true := decide_eq_true k3
          go_wp2
          go_ret2
          exact ⟨rfl, unhide HB2⟩
        · have d3 : decide (n < 0) = false := decide_eq_false k3
          have k4 : ((8 * rw' : Nat) : Int) - f < n := by omega
          have d4 : decide (((8 * rw' : Nat) : Int) - f < n) = true := decide_eq_true k4
          clear hsp
          go_wp2
          go_ret2
          exact ⟨rfl, unhide HB2⟩
theorem rbytes_yes {w : World} {pr r : Nat} {rt : Nat → Nat} {R : RefSt} (h : RefAt w pr r rt R) (j : Nat) (hj : j < R.L.length) (hg : R.Gn.getD j none = none) (f n : Nat) (hsp : f + n ≤ 8 * (R.L.getD j (0, 0, 0)).2.2) :
    Calls Try.prog 30 #[.pointer (some ⟨pr, 0, none⟩), .int .i64 (place R.L j : Nat), .int .i64 (f : Nat), .int .i64 (n : Nat)] w fun e w' => ∃ v, e = .returned (.tuple #[v, .int .i64 0]) ∧ Line w' 5 v n (fun k => .int .u8 ((rbyN R j).getD (f + k) 0 : Nat)) ∧ (∀ g, v.ownBlock = some g → w.heap.size ≤ g) ∧ Below w.heap.size w w' := by
  have HF := hide (whole_yes h j hj hg)
  obtain ⟨i0, hi, hx0, hx1, hx2⟩ := info_parts Try.info5
  have HO := hide (fun wq k => h.six j hj wq k)
  have HRW := hide (fun wq (k : Still w wq) => (h.still k).raws j hj)
  have HUN := hide (fun wq (k : Still w wq) => raws_unpack h k j hj)
  have HRL := hide (raws_len h j hj)
  have HLN : Hid ((rbyN R j).length = 8 * (R.L.getD j (0, 0, 0)).2.2) := hide (Larder.unpackL_length _ _)
  obtain ⟨hf1, hf2, hf3⟩ := h.flds j hj
  have y0 : (0 : Int) ≤ (j : Int) := by omega
  have y1 : (j : Int) < (R.L.length : Int) := by omega
  rw [hg] at HO
  generalize (R.L.getD j (0, 0, 0)).1 = kd at *
  generalize (R.L.getD j (0, 0, 0)).2.1 = rf at *
  generalize (R.L.getD j (0, 0, 0)).2.2 = rw' at *
  generalize fldsOf R.L j = nf at *
  generalize place R.L j = pj at *
  have z1 : (0 : Int) ≤ (rf : Int) := by omega
  have z2 : (rf : Int) ≤ (nf : Int) := by omega
  clear h hg
  go_enter Try.func30, Try.ntmps30
  go_wp2_with fail
  refine (unhide HF).mono ?_
  rintro e w1 ⟨rfl, hst⟩
  obtain ⟨g, cap, aF, cF, c2, eF, o0, o1, o2, o3, o4, o5, _⟩ := unhide HO w1 hst
  have HST := hide hst
  have HW1 := hide (fun wq (k : Still w wq) => unhide HRW wq k aF cF eF)
  rcases unhide HRW w1 hst aF cF eF with ⟨rfl, rfl, hn0⟩ | ⟨gF, rfl, hcF, hcm, _⟩
  · clear o0 o1 o4 o5 hst HO HF eF
    have hrf : rf = 0 := by omega
    have hrw : rw' = 0 := by omega
    subst hrf
    subst hn0
    subst hrw
    have HWN : Hid (rawsOf R j = []) := hide (List.eq_nil_of_length_eq_zero (unhide HRL))
    go_wp2_with fail
    go_quiet (fail)
    have HS8 := hide ((unhide HST).drew nq)
    generalize w1.drewN nq = w8 at *
    clear c2 o2 o3
    go_wp2_with fail
    have := unhide HUN w8 (unhide HS8) none 0 (.inl (unhide HWN))
    refine this.mono ?_
    rintro e w2 ⟨a1, c1, rfl, b1, b2⟩
    have HB2 := hide b2
    have HB1 := hide b1
    clear b1 b2
    have d1 : decide ((f : Int) < 0) = false := decide_eq_false (by omega)
    have d2 : decide ((0 : Int) < (f : Int)) = false := decide_eq_false (by omega)
    have d3 : decide ((n : Int) < 0) = false := decide_eq_false (by omega)
    have d4 : decide ((0 : Int) - (f : Int) < (n : Int)) = false := decide_eq_false (by omega)
    have hf0 : f = 0 := by omega
    have hn0 : n = 0 := by omega
    subst hf0
    subst hn0
    clear d1 d2 d3 d4
    rcases (unhide HB1).2 with ⟨hv, h0⟩ | ⟨g1, cap1, cur, hv, hb1, hgg, hn1, hm1, hs1, ht1⟩
    · simp only [Value.slice.injEq] at hv
      obtain ⟨rfl, _, rfl⟩ := hv
      clear HB1
      go_wp2_with (at_builtin; refine append_copy rfl _ _ 22 rfl 5 i0 (.int .u8 0) 1 Try.underlying22 hi hx0 hx1 hx2 rfl rfl (.slice none 0 0) rfl 0 (fun k => .int .u8 ((rbyN R j).getD (0 + k) 0 : Nat)) (.inl ⟨rfl, _, _, rfl⟩) ?t2 ?t3 ?_)
      case t2 => omega
      case t3 => omega
      intro v w3 hL hb hv
      obtain ⟨av, cv, rfl⟩ := hL.shape
      have hb2 : Below w.heap.size w w3 := (unhide HB2).trans (hb.mono (unhide HB2).size)
      have hv2 : ∀ g, (Value.slice av 0 cv).ownBlock = some g → w.heap.size ≤ g := fun g hg => Nat.le_trans (unhide HB2).size (hv g hg)
      have HE := hide (And.intro hL (And.intro hv2 hb2))
      clear hL hb hv hb2 hv2
      go_wp2
      go_ret2
      exact ⟨_, rfl, (unhide HE).1.congr (fun k hk => absurd hk (Nat.not_lt_zero _)), (unhide HE).2.1, (unhide HE).2.2⟩
    · simp only [Value.slice.injEq] at hv
      obtain ⟨rfl, _, rfl⟩ := hv
      unfold maxLen at hm1
      clear HB1 hgg ht1 hs1
      go_wp2_with (at_builtin; refine append_copy rfl _ _ 22 rfl 5 i0 (.int .u8 0) 1 Try.underlying22 hi hx0 hx1 hx2 rfl rfl _ rfl 0 (fun k => .int .u8 ((rbyN R j).getD (0 + k) 0 : Nat)) (.inl ⟨rfl, _, _, rfl⟩) ?u2 ?u3 ?_)
      case u2 => omega
      case u3 => omega
      intro v w3 hL hb hv
      obtain ⟨av, cv, rfl⟩ := hL.shape
      have hb2 : Below w.heap.size w w3 := (unhide HB2).trans (hb.mono (unhide HB2).size)
      have hv2 : ∀ g, (Value.slice av 0 cv).ownBlock = some g → w.heap.size ≤ g := fun g hg => Nat.le_trans (unhide HB2).size (hv g hg)
      have HE := hide (And.intro hL (And.intro hv2 hb2))
      clear hL hb hv hb2 hv2
      go_wp2
      go_ret2
      exact ⟨_, rfl, by simpa using (unhide HE).1, (unhide HE).2.1, (unhide HE).2.2⟩
  · clear o0 o1 o4 o5 hst HO HF
    have z3 : (nf : Int) ≤ (cF : Int) := by omega
    unfold maxLen at hcm
    have en : nf - rf = rw' := by omega
    go_wp2_with fail
    go_quiet (fail)
    have HWW : Hid (∀ wq, Still w wq → Words wq (if cF = rf then some ⟨gF, 0, none⟩ else some ⟨gF, rf, none⟩) (rawsOf R j)) := hide (fun wq k => by
      by_cases e : cF = rf
      · exact .inl (List.eq_nil_of_length_eq_zero (by rw [unhide HRL]; omega))
      · rw [if_neg e]
        rcases unhide HW1 wq k with ⟨q, _⟩ | ⟨g', q, _, _, q2⟩
        · cases q
        · injection q with q
          injection q with q
          subst q
          exact q2)
    generalize (if cF = rf then some (⟨gF, 0, none⟩ : Addr) else some ⟨gF, rf, none⟩) = aR at *
    generalize cF - rf = cR at *
    have HS8 := hide ((unhide HST).drew nq)
    generalize w1.drewN nq = w8 at *
    clear c2 o2 o3
    go_wp2_with fail
    have := unhide HUN w8 (unhide HS8) aR cR (unhide HWW w8 (unhide HS8))
    refine this.mono ?_
    rintro e w2 ⟨a1, c1, rfl, b1, b2⟩
    have HB2 := hide b2
    have HB1 := hide b1
    clear b1 b2 en
    have d1 : decide ((f : Int) < 0) = false := decide_eq_false (by omega)
    have d2 : decide (((8 * rw' : Nat) : Int) < (f : Int)) = false := decide_eq_false (by omega)
    have d2' : decide (8 * rw' < f) = false := decide_eq_false (by omega)
    have d3 : decide ((n : Int) < 0) = false := decide_eq_false (by omega)
    have d4 : decide (((8 * rw' : Nat) : Int) - (f : Int) < (n : Int)) = false := decide_eq_false (by omega)
    have HCL : Hid (∀ k, k < 8 * rw' → (cellsOf (rbyN R j))[k]? = some (.int .u8 ((rbyN R j).getD k 0 : Nat))) := hide (fun k hk => cellsOf_at _ k (by rw [unhide HLN]; exact hk))
    rcases (unhide HB1).2 with ⟨hv, h0⟩ | ⟨g1, cap1, cur, hv, hb1, hgg, hn1, hm1, hs1, ht1⟩
    · rw [unhide HLN] at h0
      have hrw0 : rw' = 0 := by omega
      have hf0 : f = 0 := by omega
      have hn0 : n = 0 := by omega
      subst hrw0
      subst hf0
      subst hn0
      simp only [Value.slice.injEq] at hv
      obtain ⟨rfl, _, rfl⟩ := hv
      clear HB1 HCL
      go_wp2_with (at_builtin; refine append_copy rfl _ _ 22 rfl 5 i0 (.int .u8 0) 1 Try.underlying22 hi hx0 hx1 hx2 rfl rfl (.slice none 0 0) rfl 0 (fun k => .int .u8 ((rbyN R j).getD (0 + k) 0 : Nat)) (.inl ⟨rfl, _, _, rfl⟩) ?s2 ?s3 ?_)
      case s2 => omega
      case s3 => omega
      intro v w3 hL hb hv
      obtain ⟨av, cv, rfl⟩ := hL.shape
      have hb2 : Below w.heap.size w w3 := (unhide HB2).trans (hb.mono (unhide HB2).size)
      have hv2 : ∀ g, (Value.slice av 0 cv).ownBlock = some g → w.heap.size ≤ g := fun g hg => Nat.le_trans (unhide HB2).size (hv g hg)
      have HE := hide (And.intro hL (And.intro hv2 hb2))
      clear hL hb hv hb2 hv2
      go_wp2
      go_ret2
      exact ⟨_, rfl, by simpa using (unhide HE).1, (unhide HE).2.1, (unhide HE).2.2⟩
    · rw [unhide HLN] at hv hn1 ht1
      simp only [Value.slice.injEq] at hv
      obtain ⟨rfl, _, rfl⟩ := hv
      have HN : Hid (∀ k, k < n → w2.cell? ⟨g1, f + k, none⟩ = some (.int .u8 ((rbyN R j).getD (f + k) 0 : Nat))) := hide (fun k hk => by
        have e1 := unhide HCL (f + k) (by omega)
        rw [← ht1, List.getElem?_take, if_pos (by omega)] at e1
        simp only [World.cell?, hgg]
        simpa using e1)
      unfold maxLen at hm1
      clear HB1 HCL hgg ht1 hs1
      have z5 : (0 : Int) ≤ (f : Int) := by omega
      have z6 : (f : Int) ≤ (f : Int) + (n : Int) := by omega
      have z7 : (f : Int) + (n : Int) ≤ (c1 : Int) := by omega
      by_cases ec : c1 = f
      · have hn0 : n = 0 := by omega
        subst hn0
        go_wp2_with (at_builtin; refine append_copy rfl _ _ 22 rfl 5 i0 (.int .u8 0) 1 Try.underlying22 hi hx0 hx1 hx2 rfl rfl _ rfl 0 (fun k => .int .u8 ((rbyN R j).getD (f + k) 0 : Nat)) ?q1 ?q2 ?q3 ?_)
        case q2 => omega
        case q3 => omega
        intro v w3 hL hb hv
        obtain ⟨av, cv, rfl⟩ := hL.shape
        have hb2 : Below w.heap.size w w3 := (unhide HB2).trans (hb.mono (unhide HB2).size)
        have hv2 : ∀ g, (Value.slice av 0 cv).ownBlock = some g → w.heap.size ≤ g := fun g hg => Nat.le_trans (unhide HB2).size (hv g hg)
        have HE := hide (And.intro hL (And.intro hv2 hb2))
        clear hL hb hv hb2 hv2
        go_wp2
        go_ret2
        exact ⟨_, rfl, by simpa using (unhide HE).1, (unhide HE).2.1, (unhide HE).2.2⟩
      · go_wp2_with (at_builtin; refine append_copy rfl _ _ 22 rfl 5 i0 (.int .u8 0) 1 Try.underlying22 hi hx0 hx1 hx2 rfl rfl _ rfl n (fun k => .int .u8 ((rbyN R j).getD (f + k) 0 : Nat)) ?r1 ?r2 ?r3 ?_)
        case r1 =>
          simp [Act.eval, Addr.add]
          by_cases hn0 : n = 0
          · exact .inl hn0
          · refine .inr ⟨by omega, fun k hk => ?_⟩
            have hk2 := unhide HN k hk
            by_cases k0 : k = 0
            · subst k0; simpa using hk2
            · rw [if_neg k0]; simpa using hk2
        case r2 => omega
        case r3 => omega
        intro v w3 hL hb hv
        obtain ⟨av, cv, rfl⟩ := hL.shape
        have hb2 : Below w.heap.size w w3 := (unhide HB2).trans (hb.mono (unhide HB2).size)
        have hv2 : ∀ g, (Value.slice av n cv).ownBlock = some g → w.heap.size ≤ g := fun g hg => Nat.le_trans (unhide HB2).size (hv g hg)
        have HE := hide (And.intro hL (And.intro hv2 hb2))
        clear hL hb hv hb2 hv2
        go_wp2
        go_ret2
        exact ⟨_, rfl, by simpa using (unhide HE).1, (unhide HE).2.1, (unhide HE).2.2⟩
end Go.Proofs.Ytdgdnpgjbphgaab
